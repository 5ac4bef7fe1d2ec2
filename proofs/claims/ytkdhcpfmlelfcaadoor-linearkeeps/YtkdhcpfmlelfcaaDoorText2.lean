/- Text's contract. -/
import Derived.Test.YtkdhcpfmlelfcaaDoorBText
import Derived.Laws.BytesArg
import Derived.Test.YtkdhcpfmlelfcaaDoorBRows
import Derived.Test.YtkdhcpfmlelfcaaDoorBMem
import Derived.Deep.RegionWith
import Derived.Deep.CutRange
import Derived.Deep.DeepMust
namespace Go.Proofs.YtkdhcpfmlelfcaaDoor
set_option linter.unusedVariables false
set_option linter.unusedSimpArgs false
open Go Go.RowKit Go.Shelf Go.Lib

attribute [local go_sem] Oper.semAt_some

theorem below_grown {B : Nat} {w w' w'' : World} {row : Option Nat} (h : Below B w w') (hB : B ≤ w.heap.size) (hg : w'.grownBy w'' row) (hr : ∀ k, row = some k → B ≤ k) : Below B w w'' :=
  ⟨hg.os.trans h.os, hg.tape.trans h.tape, hg.output.trans h.output, Nat.le_trans h.size hg.size, fun k hk => (hg.block k (by have := h.size; omega) (fun e => by have := hr k e.symm; omega)).trans (h.block k hk)⟩

theorem ownsRow_keep {W W' : World} {base : Nat} {e : TypeId} {size : Nat} {v : Value} {n : Nat} {xs : List Value} (h : W.ownsRow base e size v n xs) (hb : Below W.heap.size W W') : W'.ownsRow base e size v n xs := by
  refine ⟨h.1, ?_⟩
  rcases h.2 with hn | ⟨g2, cap, cur, hv, h1, h2, h3⟩
  · exact .inl hn
  · exact .inr ⟨g2, cap, cur, hv, h1, (hb.block g2 (Array.getElem?_eq_some_iff.1 h2).1).trans h2, h3⟩

theorem ownsRow_slice {W : World} {base : Nat} {e : TypeId} {size : Nat} {v : Value} {n : Nat} {xs : List Value} (h : W.ownsRow base e size v n xs) : ∃ a c, v = .slice a n c := by
  rcases h.2 with ⟨hv, hn⟩ | ⟨g2, cap, cur, hv, _⟩
  · exact ⟨none, 0, by rw [hv, hn]⟩
  · exact ⟨_, _, hv⟩

theorem tab_keep {n : String} {k : IntKind} {zs : List Int} {w w' : World} (h : TabIs Tryd.prog w n k zs) (hb : Below w.heap.size w w') : TabIs Tryd.prog w' n k zs := by
  unfold TabIs World.var? at h ⊢
  cases hg : Tryd.prog.globalNamed n with
  | none => rw [hg] at h; cases h
  | some g =>
    rw [hg] at h
    simp only [Option.bind_some] at h ⊢
    have hlt : g < w.heap.size := by
      rcases Nat.lt_or_ge g w.heap.size with h' | h'
      · exact h'
      · rw [Array.getElem?_eq_none h'] at h; cases h
    rw [hb.block g hlt]
    exact h

theorem limbs_pos {us : List Nat} (hc : Canon R us) (h : us.length ≠ 0) : val R us ≠ 0 := by
  intro e
  have : us = [] := hc.val_zero R_pos e
  exact h (by rw [this]; rfl)

set_option maxRecDepth 100000 in
set_option maxHeartbeats 4000000 in
theorem text_calls (w : World) (sv : Value) (xs : List Nat) (hx : Limbs w sv xs) (bx : xs.length ≤ 1048576) (htab : Lib.TabIs Tryd.prog w "internal/strconv.uint64pow10" .u64 Lib.pow10Tab) :
    Calls Tryd.prog 64 #[sv] w fun e w' => e = .returned (.string ⟨(textOf (val R xs)).toArray⟩) ∧ Below w.heap.size w w' := by
  obtain ⟨ao, cap0, rfl⟩ := hx.len
  refine calls_of_marks Tryd.func64 rfl ?_
  simp only [Tryd.ntmps64, List.size_toArray, List.length_cons, List.length_nil, Nat.reduceAdd, Nat.reduceSub, Array.replicate_succ, Array.replicate_zero, List.push_toArray, List.append_toArray, List.nil_append, List.cons_append]
  go_upto_region 2 with (go_at_call 36; go_must (refine (norm_calls _ _ xs hx bx).mono ?_; rintro e w1 ⟨rv, rfl, hA, hb1⟩))
  obtain ⟨us, hM, hcu, hvu⟩ := hA
  obtain ⟨ao1, cap1, rfl⟩ := hM.limbs.len
  have Hvu := hide hvu
  clear hvu
  by_cases hz : us.length = 0
  · have hz' : ((us.length : Int) == 0) = true := by simp [hz]
    have Hz := hide hz
    clear hz
    go_wp2
    refine ⟨.string ⟨#[48]⟩, results_tmp (fn := Tryd.f64) rfl _ _ _, ?_, hb1⟩
    rw [← Hvu.out, List.eq_nil_of_length_eq_zero Hz.out]
    rfl
  · have hz' : ((us.length : Int) == 0) = false := beq_eq_false_iff_ne.2 (by omega)
    obtain ⟨hsu, ⟨hn1, rfl⟩ | ⟨g, full, cap, hrv, hg1, hg2, hg3, hg4, hg5, hg6, hg7⟩⟩ := hM
    · exact absurd rfl hz
    have Hrv := hide hrv
    injection hrv with ea eb ec
    subst ea
    subst ec
    have Hz := hide hz
    have hul : us.length ≤ 1048576 := by
      rcases Nat.lt_or_ge xs.length us.length with h | h
      · have := canon_len_lt R_pos hx.small hcu h
        have := Hvu.out
        omega
      · omega
    have hfu : us ++ full.drop us.length = full := by
      have := List.take_append_drop us.length full
      rw [hg7] at this
      exact this
    have hglt := hg6.lt
    have hown0 : (w1.alloc (.cells #[.slice none 0 0] 22)).ownsRow (w1.heap.size + 1) 53 1 (.slice none 0 0) 0 (u32s []) := World.ownsRow_nil _ _ _ _
    have hb40 := Boxed.new w1 22 (.slice none 0 0)
    have hrow0 := hg6.alloc (.cells #[.slice none 0 0] 22)
    have hB0 : Below w.heap.size w (w1.alloc (.cells #[.slice none 0 0] 22)) := hb1.trans ((Below.refl _ w1).alloc (by have := hb1.size; omega) _)
    obtain ⟨i0, hi, hz0, hz1, hz2⟩ := info_parts infoU32
    go_wp2_with fail
    go_loopw [3] (fun rv wr => ∃ (zs tail gs : List Nat) (gv : Value), rv = restOf g cap1 zs ∧ Canon R zs ∧ Row wr g (zs ++ tail) ∧ (zs ++ tail).length = full.length ∧ zs.length ≤ us.length ∧ Small R (zs ++ tail) ∧ pieces (val R us) = gs ++ pieces (val R zs) ∧ Boxed wr w1.heap.size 22 gv ∧ wr.ownsRow (w1.heap.size + 1) 53 1 gv gs.length (u32s gs) ∧ Below w.heap.size w wr ∧ w1.heap.size + 1 ≤ wr.heap.size) (fun rv wr => worth rv wr)
    case atStart =>
      exact ⟨us, full.drop us.length, [], .slice none 0 0, by unfold restOf; rw [if_neg Hz.out], hcu, by rw [hfu]; exact hrow0, by rw [hfu], Nat.le_refl _, by rw [hfu]; exact hg5, rfl, hb40, hown0, hB0, by simp⟩
    case round =>
      obtain ⟨zs, tail, gs, gv, rfl, hcz, hrow, hlen, hzl, hst, hpc, hb4, hown, hB, hsz⟩ := hrel
      by_cases he : zs.length = 0
      · have e0 : restOf g cap1 zs = .slice none 0 0 := by unfold restOf; rw [if_pos he]
        rw [e0]
        obtain rfl := List.eq_nil_of_length_eq_zero he
        have Hpc : Hid (pieces (val R us) = gs) := by
          show _ = _
          rw [hpc, show val R [] = 0 from rfl, pieces_zero, List.append_nil]
        obtain ⟨ga, gc, rfl⟩ := ownsRow_slice hown
        have c4 := hb4.cell
        have hl4 := hb4.lt
        clear hpc hlen hrow hst he
        go_wp2_with (go_at_call 60; refine (fromTop_calls _ _ ⟨_, _, _, rfl⟩).mono ?_; rintro e w' ⟨rfl, rfl⟩)
        have hgs : 0 < gs.length := by
          rw [← Hpc.out, pieces_pos (limbs_pos hcu Hz.out)]
          simp
        obtain ⟨gb, rfl⟩ : ∃ gb, ga = some ⟨gb, 0, none⟩ := by
          rcases hown.2 with ⟨_, h⟩ | ⟨g2, cap, cur, hv, _⟩
          · omega
          · injection hv with h _ _; exact ⟨g2, h⟩
        have hgl : gs.length ≤ 33554432 := by
          have h1 := val_lt hcu.1
          rw [R_eq, show (4294967296 : Nat) = 2 ^ 32 from rfl, ← Nat.pow_mul] at h1
          have h2 := pieces_len _ _ h1
          rw [show (2 : Nat) ^ 32 = R from rfl, Hpc.out] at h2
          omega
        have hgb := hown.lt gb rfl
        have b4 := (hb4.alloc (.cells #[.slice none 0 0] 58)).alloc (.cells #[.slice (some ⟨gb, 0, none⟩) gs.length gc] 22)
        have b5 := (Boxed.new wr 58 (.slice none 0 0)).alloc (.cells #[.slice (some ⟨gb, 0, none⟩) gs.length gc] 22)
        have bt := Boxed.new (wr.alloc (.cells #[.slice none 0 0] 58)) 22 (.slice (some ⟨gb, 0, none⟩) gs.length gc)
        have how := (hown.alloc (.cells #[.slice none 0 0] 58)).alloc (.cells #[.slice (some ⟨gb, 0, none⟩) gs.length gc] 22)
        have hBr := (hB.alloc hB.size (.cells #[.slice none 0 0] 58)).alloc (by simp; have := hB.size; omega) (.cells #[.slice (some ⟨gb, 0, none⟩) gs.length gc] 22)
        have hzr : ((wr.alloc (.cells #[.slice none 0 0] 58)).alloc (.cells #[.slice (some ⟨gb, 0, none⟩) gs.length gc] 22)).heap.size = wr.heap.size + 1 + 1 := by simp
        simp only [World.size_alloc] at bt
        obtain ⟨Wr, hWr⟩ : ∃ Wr, (wr.alloc (.cells #[.slice none 0 0] 58)).alloc (.cells #[.slice (some ⟨gb, 0, none⟩) gs.length gc] 22) = Wr := ⟨_, rfl⟩
        rw [hWr] at b4 b5 bt how hBr hzr ⊢
        have hsw := hB.size
        clear hWr hb4 hown c4
        refine range_plain (gf := 77) (lb := #[.pointer (some ⟨wr.heap.size + 1, 0, none⟩)]) rfl (enters_of Tryd.func77 (by kernel_rfl) rfl)
          (top_hands (wr.heap.size + 1) (some ⟨gb, 0, none⟩) gs.length gc (fun k => ((nth gs (gs.length - 1 - k) : Nat) : Int)) (by omega)) (fun _ => rfl)
          (fun k W => ∃ tv : Value, (Boxed W w1.heap.size 22 (.slice (some ⟨gb, 0, none⟩) gs.length gc) ∧ Boxed W wr.heap.size 58 tv ∧ Boxed W (wr.heap.size + 1) 22 (.slice (some ⟨gb, 0, none⟩) gs.length gc)) ∧ (W.ownsRow (w1.heap.size + 1) 53 1 (.slice (some ⟨gb, 0, none⟩) gs.length gc) gs.length (u32s gs) ∧ W.ownsRow (wr.heap.size + 1 + 1) 5 1 tv (joined (gs.drop (gs.length - k))).length (cellsOf (joined (gs.drop (gs.length - k))))) ∧ Below w.heap.size w W)
          (fun _ _ _ => False)
          (own_exists fun tv => OwnFrom.and (OwnFrom.and (own_boxed _ _ _ _) (OwnFrom.and (own_boxed _ _ _ _) (own_boxed _ _ _ _))) (OwnFrom.and (OwnFrom.and (own_owns _ _ _ _ (fun _ => .slice (some ⟨gb, 0, none⟩) gs.length gc) (fun _ => gs.length) (fun _ => u32s gs)) (own_owns _ _ _ _ (fun _ => tv) (fun k => (joined (gs.drop (gs.length - k))).length) (fun k => cellsOf (joined (gs.drop (gs.length - k)))))) (ownFrom_below (Nat.le_refl _) (by omega))))
          (fun _ => ownFrom_pure _ _)
          ?know ⟨.slice none 0 0, ⟨b4, b5, bt⟩, ⟨how, by rw [Nat.sub_zero, List.drop_length]; exact World.ownsRow_nil _ _ _ _⟩, hBr⟩
          (fun k => { tmps := #[.slice ao xs.length cap0, undef, .string ⟨#[]⟩, .slice none 0 0, .pointer (some ⟨w1.heap.size, 0, none⟩), .pointer (some ⟨wr.heap.size, 0, none⟩), .int .i64 ((gs.length : Int) - 1 - k), .int .u32 ((nth gs (gs.length - 1 - k) : Nat) : Int), undef, .slice ao xs.length cap0, .slice (some ⟨g, 0, none⟩) us.length cap1, .slice (some ⟨g, 0, none⟩) us.length cap1, .int .i64 (us.length : Int), .bool false, .slice none 0 0, .int .i64 0, .bool false, u17, u18, u19, u20, u21, u22, u23, .slice (some ⟨gb, 0, none⟩) gs.length gc, .func (.func 77) #[] #[.pointer (some ⟨wr.heap.size + 1, 0, none⟩)], .int .i64 ((gs.length : Int) - 1 - k), .int .u32 ((nth gs (gs.length - 1 - k) : Nat) : Int), undef, undef, undef, undef, undef, undef, undef, undef, undef, undef, undef, undef, undef, undef, undef, undef, undef, undef], defers := [] }) ?assign ?body ?done ?stop
        case know =>
          rintro k W ⟨tv, ⟨_, _, hb⟩, ⟨hr, _⟩, _⟩
          refine ⟨hb.cell, fun hk => ⟨gb, 0, rfl, ?_⟩⟩
          rw [Nat.zero_add, hr.cellAt _ (by omega)]
          unfold u32s
          rw [List.getElem?_map, List.getElem?_eq_getElem (by omega)]
          simp only [Option.map_some]
          rw [nth_eq (by omega)]
        case assign =>
          intro l k W K hk hK
          gi_wp2
          exact hK
        case body =>
          rintro l k W hk ⟨tv, hall⟩
          have hH : Holding w w1.heap.size wr.heap.size gb gc gs W tv (joined (gs.drop (gs.length - k))) := hall
          clear hall
          have hgg : nth gs (gs.length - 1 - k) < 1000000000 := by
            rw [nth_eq (by omega)]
            exact pieces_small (val R us) _ (by rw [Hpc.out]; exact List.getElem_mem _)
          obtain ⟨gg, hg0⟩ : ∃ gg, nth gs (gs.length - 1 - k) = gg := ⟨_, rfl⟩
          rw [hg0] at hgg ⊢
          obtain ⟨T, hT⟩ : ∃ T, joined (gs.drop (gs.length - k)) = T := ⟨_, rfl⟩
          rw [hT] at hH
          have c4 := hH.1.1.cell
          have c5 := hH.1.2.1.cell
          have htW := tab_keep htab hH.2.2
          have hw64 : IntKind.u64.wrap (gg : Int) = (gg : Int) := wrap64_of (by omega)
          have hTl : T.length ≤ 301989888 := by
            rw [← hT]
            have h1 := joined_len (l := gs.drop (gs.length - k)) (fun x hx => pieces_small (val R us) x (by rw [Hpc.out]; exact List.mem_of_mem_drop hx))
            have h2 : (gs.drop (gs.length - k)).length ≤ gs.length := by simp
            omega
          have Hg0 := hide hg0
          have HT := hide hT
          have hdl := digits_le9 hgg
          have Hdl := hide hdl
          have hrW := hH.1.2.1.lt
          have hrW1 := hH.1.2.2.lt
          clear hg0 hT hdl
          by_cases hk0 : k = 0
          · have hnl : ¬ ((gs.length : Int) - 1 - k < (gs.length : Int) - 1) := by omega
            gi_wp2_with (first
              | (refine ⟨trivial, ?_⟩; gi_at_call 80; refine (CallsIn.inRound l (callsIn_wide.2 (fmt_calls gg (by omega) _ htW))).mono ?_; rintro e W1 ⟨rfl, hbW⟩; have c41 := (boxed_keep hH.1.1 hbW).cell; have c51 := (boxed_keep hH.1.2.1 hbW).cell; obtain ⟨ds, hds⟩ : ∃ ds, (⟨(decDigits gg).toArray⟩ : ByteArray) = ds := ⟨_, rfl⟩; rw [hds]; have Hds := hide hds; clear hds)
              | (refine wpListIn_apps (by rfl) (.tmp 41) (.tmp 42) (by rfl) (wr.heap.size + 1 + 1) tv T.length (cellsOf T) (by rfl) (by exact (hH.below hbW).2.1.2) ds (by rfl) (by rw [← Hds.out]; show T.length + (decDigits gg).length ≤ _; have := Hdl.out; omega) (by have := hbW.size; omega) ?_; intro v4 W4 ho4 hg4; obtain ⟨va, vc, rfl⟩ := ownsRow_slice ho4; have hne : some wr.heap.size ≠ tv.ownBlock := (fun e => by have := ((hH.below hbW).2.1.2.lt _ e.symm).1; omega); have d5 := (hg4.block wr.heap.size (by have := hbW.size; omega) hne).trans (hH.below hbW).1.2.1; have c54 := Boxed.cell d5; have f54 := Boxed.frozen d5))
            have hsz4 : ds.size = (decDigits gg).length := by rw [← Hds.out]; rfl
            have hcs4 : strCells ds = cellsOf (decDigits gg) := by rw [← Hds.out]; rfl
            rw [hsz4] at ho4 ⊢
            rw [hcs4] at ho4
            obtain ⟨hH5, hK5⟩ := (hH.below hbW).more (by omega) (by omega) hsw ho4 hg4
            have hKW : KeepsOthers W W1 := ⟨hbW.size, fun i o hi _ => (hbW.block i (Array.getElem?_eq_some_iff.1 hi).1).trans hi⟩
            refine ⟨(hKW.trans hK5).from _, ⟨.slice va (T.length + (decDigits gg).length) vc, ?_⟩⟩
            have e1 : joined (gs.drop (gs.length - (k + 1))) = T ++ decDigits gg := by
              rw [← HT.out, ← Hg0.out, hk0, joined_first hgs]
              simp [joined]
            show Holding w w1.heap.size wr.heap.size gb gc gs _ _ (joined (gs.drop (gs.length - (k + 1))))
            rw [e1]
            exact hH5
          · have hlt : ((gs.length : Int) - 1 - k < (gs.length : Int) - 1) := by omega
            gi_wp2_with (refine ⟨trivial, ?_⟩; gi_at_call 80; refine (CallsIn.inRound l (callsIn_wide.2 (fmt_calls gg (by omega) _ htW))).mono ?_; rintro e W1 ⟨rfl, hbW⟩; have c41 := (boxed_keep hH.1.1 hbW).cell; have c51 := (boxed_keep hH.1.2.1 hbW).cell; obtain ⟨ds, hds⟩ : ∃ ds, (⟨(decDigits gg).toArray⟩ : ByteArray) = ds := ⟨_, rfl⟩; rw [hds]; have Hds := hide hds; clear hds)
            have hd9 : ds.size ≤ 9 := by
              rw [← Hds.out]
              exact Hdl.out
            have hle : (ds.size : Int) ≤ ((⟨#[48, 48, 48, 48, 48, 48, 48, 48, 48]⟩ : ByteArray).size : Nat) := by show (ds.size : Int) ≤ (9 : Nat); omega
            have hcut : (Instr.slice 9 (.string ⟨#[48, 48, 48, 48, 48, 48, 48, 48, 48]⟩) (some (.int .i64 (ds.size : Int))) none none).run Tryd.prog W1.drew = .ok (.string ((⟨#[48, 48, 48, 48, 48, 48, 48, 48, 48]⟩ : ByteArray).extract ds.size 9)) W1.drew := by
              rw [run_slice_string_l W1.drew 9 _ Tryd.underlying9 .i64 (ds.size : Int) (by omega) hle]
              rfl
            refine round_still 1 l 4 (by kernel_rfl) (by decide +kernel) (no_defer (by simp)) (by rintro ⟨_, _, h⟩; exact h) ?_
            simp only [List.take_succ_cons, List.take_zero, List.drop_succ_cons, List.drop_zero]
            still_step
            still_step
            still_step
            still_step
            refine wpStill_nil ?_
            have hns := noughts_size hd9
            have hnc := noughts_cells hd9
            have hWs := hbW.size
            have hH1 : Holding w w1.heap.size wr.heap.size gb gc gs W1.drew tv T := hH.below hbW.drew
            have hne : some wr.heap.size ≠ tv.ownBlock := fun e => by have := (hH1.2.1.2.lt _ e.symm).1; omega
            have hrD : wr.heap.size < W1.drew.heap.size := hH1.1.2.1.lt
            have hrD1 : wr.heap.size + 1 < W1.drew.heap.size := hH1.1.2.2.lt
            refine wpList_apps (by rfl) (.tmp 36) (.tmp 39) (by rfl) (wr.heap.size + 1 + 1) tv T.length (cellsOf T) (by rfl) (by exact hH1.2.1.2) ((⟨#[48, 48, 48, 48, 48, 48, 48, 48, 48]⟩ : ByteArray).extract ds.size 9) (by rfl) (by rw [hns]; omega) (by omega) ?_
            intro v2 W2 ho2 hg2
            obtain ⟨va, vc, rfl⟩ := ownsRow_slice ho2
            rw [hnc] at ho2
            have d5 := (hg2.block wr.heap.size hrD hne).trans hH1.1.2.1
            have c52 := Boxed.cell d5
            have f52 := Boxed.frozen d5
            obtain ⟨n2, hn2⟩ : ∃ n2, T.length + ((⟨#[48, 48, 48, 48, 48, 48, 48, 48, 48]⟩ : ByteArray).extract ds.size 9).size = n2 := ⟨_, rfl⟩
            rw [hn2] at ho2 ⊢
            go_wp2
            have hn3 : n2 = T.length + (List.replicate (9 - ds.size) (48 : UInt8)).length := by rw [List.length_replicate, ← hn2, hns]
            have Hn3 := hide hn3
            obtain ⟨hH3, hK3⟩ := hH1.more (S := List.replicate (9 - ds.size) 48) (by omega) (by omega) hsw (by rw [← hn3]; exact ho2) hg2
            obtain ⟨W3, hW3⟩ : ∃ W3, W2.setCell ⟨wr.heap.size, 0, none⟩ (.slice va n2 vc) = W3 := ⟨_, rfl⟩
            obtain ⟨S3, hS3⟩ : ∃ S3, T ++ List.replicate (9 - ds.size) 48 = S3 := ⟨_, rfl⟩
            rw [hW3] at hH3 hK3 ⊢
            rw [hS3] at hH3
            have hS3l : S3.length ≤ 301989897 := by rw [← hS3, List.length_append, List.length_replicate]; omega
            have HS3 := hide hS3
            have c53 := hH3.1.2.1.cell
            have hrD3 := hH3.1.2.1.lt
            have hrD31 := hH3.1.2.2.lt
            clear hW3 hS3 hn2 hn3 ho2 hg2 d5 c52 f52 hns hnc
            gi_wp2_with (refine wpListIn_apps (by rfl) (.tmp 41) (.tmp 42) (by rfl) (wr.heap.size + 1 + 1) _ S3.length (cellsOf S3) (by rfl) (by exact hH3.2.1.2) ds (by rfl) (by omega) (by omega) ?_; intro v4 W4 ho4 hg4; obtain ⟨vb, vd, rfl⟩ := ownsRow_slice ho4; have hne4 : some wr.heap.size ≠ (Value.slice va n2 vc).ownBlock := (fun e => by have := (hH3.2.1.2.lt _ e.symm).1; omega); have d6 := (hg4.block wr.heap.size hrD3 hne4).trans hH3.1.2.1; have c54 := Boxed.cell d6; have f54 := Boxed.frozen d6)
            have hsz4 : ds.size = (decDigits gg).length := by rw [← Hds.out]; rfl
            have hcs4 : strCells ds = cellsOf (decDigits gg) := by rw [← Hds.out]; rfl
            rw [hsz4] at ho4 ⊢
            rw [hcs4] at ho4
            obtain ⟨hH5, hK5⟩ := hH3.more (by omega) (by omega) hsw ho4 hg4
            have hKW : KeepsOthers W W1.drew := ⟨hbW.size, fun i o hi _ => (hbW.block i (Array.getElem?_eq_some_iff.1 hi).1).trans hi⟩
            refine ⟨((hKW.trans hK3).trans hK5).from _, ⟨.slice vb (S3.length + (decDigits gg).length) vd, ?_⟩⟩
            have e1 : joined (gs.drop (gs.length - (k + 1))) = S3 ++ decDigits gg := by
              rw [joined_more hk hk0, HT.out, Hg0.out, ← HS3.out, hsz4, List.append_assoc]
            show Holding w w1.heap.size wr.heap.size gb gc gs _ _ (joined (gs.drop (gs.length - (k + 1))))
            rw [e1]
            exact hH5
        case done =>
          rintro D W hD ⟨tv, ⟨hb4', hb5', _⟩, ⟨_, hot⟩, hBd⟩ hK
          rw [Nat.sub_self, List.drop_zero] at hot
          have c5 := hb5'.cell
          have Hd : Hid (textOf (val R xs) = joined gs) := by
            show _ = _
            unfold textOf
            rw [if_neg (by rw [← Hvu.out]; exact limbs_pos hcu Hz.out), ← Hvu.out, Hpc.out]
          have hfin : Below w.heap.size w (W.putObj D (.deferred none)) := hBd.trans (belowK_b (w := w) (Nat.le_refl _) W D _ _ (by omega) hK rfl rfl)
          obtain ⟨ta, tc, rfl⟩ := ownsRow_slice hot
          have hcv : (convert 58 9 (.slice ta (joined gs).length tc)).run Tryd.prog W = .ok (.string ⟨(joined gs).toArray⟩) W := by
            rcases hot.2 with ⟨hv, h0⟩ | ⟨gt, ct, cur, hv, _⟩
            · injection hv with h1 h2 h3
              subst h1; subst h3
              rw [h0, run_convert_bytes_nil W _ _ Tryd.underlying58 Tryd.underlying5 _ _ _ Tryd.underlying9, List.eq_nil_of_length_eq_zero h0]
              rfl
            · injection hv with h1 h2 h3
              subst h1; subst h3
              refine run_convert_bytes_back (P := Tryd.prog) W 58 9 5 ⟨gt, 0, none⟩ tc (joined gs) Tryd.underlying58 Tryd.underlying5 Tryd.underlying9 (fun j hj => ?_)
              have := hot.cells (g := gt) rfl j (.int .u8 ((joined gs)[j].toNat : Int)) (by simp [cellsOf, strCells, hj])
              exact this
          go_wp2
          refine ⟨by simp, .inl ⟨_, _, rfl, run_takeDeferred hK, ?_⟩⟩
          refine ⟨.string ⟨(joined gs).toArray⟩, results_tmp (fn := Tryd.f64) rfl _ _ _, by rw [Hd.out], hfin⟩
        case stop =>
          rintro D c k W _ _ h _
          exact h.elim
      · have hp : val R zs ≠ 0 := limbs_pos hcz he
        have e0 : restOf g cap1 zs = .slice (some ⟨g, 0, none⟩) zs.length cap1 := by unfold restOf; rw [if_neg he]
        rw [e0]
        have hgt : ((zs.length : Int) > 0) := by omega
        have c4 := hb4.cell
        have f4 := hb4.frozen
        have hl4 := hb4.lt
        have hne4 : some w1.heap.size ≠ gv.ownBlock := fun e => by have := hown.lt _ e.symm; omega
        have hneg : some g ≠ gv.ownBlock := fun e => by have := hown.lt _ e.symm; omega
        have hszs : Small R zs := hcz.1
        have hgl : gs.length ≤ 33554432 := by
          have h1 := val_lt hcu.1
          rw [R_eq, show (4294967296 : Nat) = 2 ^ 32 from rfl, ← Nat.pow_mul] at h1
          have h2 := pieces_len _ _ h1
          rw [show (2 : Nat) ^ 32 = R from rfl, hpc, List.length_append] at h2
          omega
        have Hpc := hide hpc
        have Hlen := hide hlen
        clear hpc hlen
        obtain ⟨ga, gc, rfl⟩ := ownsRow_slice hown
        go_upto_region 6 with fail
        go_region_law (first
          | (refine step_enter (by rfl) 79 #[.slice (some ⟨g, 0, none⟩) zs.length cap1, .int .u32 1000000000] (by kernel_rfl) ?_; refine (divideBy_at9 _ g cap1 zs tail (by exact hrow) hszs (by omega) (by omega) (by omega)).mono ?_; rintro e w3 ⟨qs, r, rfl, hr, hrlt, hql, hsq, hvq, hrow3, hbut⟩; have b43 := boxed_but (by exact hb4) hbut (by omega); have c43 := b43.cell; have f43 := b43.frozen; have hown3 := ownsRow_but (by exact hown) hbut (by omega); have hl43 := b43.lt; dsimp only)
          | (refine step_append_lies _ (by rfl) (.tmp 17) (.tmp 20) 22 (by rfl) (w1.heap.size + 1) 53 i0 _ 1 4 Tryd.underlying22 hi hz0 hz1 hz2 rfl (by omega) _ gs.length (u32s gs) (by rfl) (hown3.alloc _) ⟨w3.heap.size, 0, none⟩ 1 1 [.int .u32 (r : Int)] (by rfl) rfl (by exact World.news_of_block (World.alloc_heap_new _ _)) (by simp [Value.oneCell']) (by omega) (by unfold maxLen; omega) (by omega) (by simp; omega) (w3.heap.size + 1) (by simp) ?_; intro g2 cap2 w5 hown5 hgrow hat hlt; have b45 := (hgrow.block w1.heap.size (by simp; omega) hne4).trans (b43.alloc (.cells #[.int .u32 (r : Int)] 53)); have c45 := Boxed.cell b45; have f45 := Boxed.frozen b45))
        all_goals
          have hrow5 : Row w5 g (qs ++ tail) := (hgrow.block g (by simp; have := hrow3.lt; omega) hneg).trans (hrow3.alloc (.cells #[.int .u32 (r : Int)] 53))
          have hrow6 := hrow5.other (a := ⟨w1.heap.size, 0, none⟩) (by show g ≠ w1.heap.size; omega) (.slice (some ⟨g2, 0, none⟩) (gs.length + 1) cap2)
          have b46 := Boxed.set (.slice (some ⟨g2, 0, none⟩) (gs.length + 1) cap2) b45
          have hown6 := ownsRow_setCell_below hown5 (a := ⟨w1.heap.size, 0, none⟩) (by show w1.heap.size < w1.heap.size + 1; omega) (.slice (some ⟨g2, 0, none⟩) (gs.length + 1) cap2)
          have hw3 : w.heap.size ≤ w3.heap.size := by have := hb1.size; have := hB.size; have := hbut.size; have e : wr.drew.heap.size = wr.heap.size := rfl; omega
          have hB5 : Below w.heap.size w w5 := (hB.trans (below_undrew (hbut.below (B := w.heap.size) hg1 hB.size))).trans (below_grown ((Below.refl w.heap.size w3).alloc hw3 _) hw3 hgrow (fun k hk => by have := hown3.lt k hk; have := hb1.size; omega))
          have hB6 := hB5.setCell (p := ⟨w1.heap.size, 0, none⟩) (by show w.heap.size ≤ w1.heap.size; exact hb1.size) (.slice (some ⟨g2, 0, none⟩) (gs.length + 1) cap2)
          have hs6 : w1.heap.size + 1 ≤ (w5.setCell ⟨w1.heap.size, 0, none⟩ (.slice (some ⟨g2, 0, none⟩) (gs.length + 1) cap2)).heap.size := b46.lt
          have hsqt : Small R (qs ++ tail) := hsq.append (fun x hx => hst x (by simp [hx]))
          have hlim : Limbs (w5.setCell ⟨w1.heap.size, 0, none⟩ (.slice (some ⟨g2, 0, none⟩) (gs.length + 1) cap2)) (.slice (some ⟨g, 0, none⟩) zs.length cap1) qs := by
            have := hrow6.limbs hsqt 0 zs.length cap1 (by have := hql.out; simp; omega) (by omega) (by omega)
            rw [List.drop_zero, ← hql.out, List.take_left] at this
            rw [← hql.out]
            exact this
          obtain ⟨w6, hw6⟩ : ∃ w6, w5.setCell ⟨w1.heap.size, 0, none⟩ (.slice (some ⟨g2, 0, none⟩) (gs.length + 1) cap2) = w6 := ⟨_, rfl⟩
          rw [hw6] at hlim hs6 hB6 hown6 b46 hrow6 ⊢
          clear hw6 hrow5 hown5 b45 c45 f45 hgrow hat hB5
          go_wp2_with (go_at_call 47; go_must (refine (trim_calls' _ _ _ _ qs hql.out hlim).mono ?_; rintro e w7 ⟨rfl, hb7⟩))
          go_roundw
          case rel =>
            have hsp : trm qs ++ (qs.drop (tl qs) ++ tail) = qs ++ tail := by rw [← List.append_assoc]; congr 1; exact List.take_append_drop _ _
            have hq2 := hql.out
            have hl2 := Hlen.out
            have ht2 := tl_le qs
            simp only [List.length_append] at hl2
            refine ⟨trm qs, qs.drop (tl qs) ++ tail, gs ++ [r], .slice (some ⟨g2, 0, none⟩) (gs.length + 1) cap2, ?_, canon_trm hsq, by rw [hsp]; exact hrow6.keep hb7, by rw [hsp, List.length_append]; omega, by rw [trm_length]; omega, by rw [hsp]; exact hsqt, ?_, boxed_keep b46 hb7, ?_, hB6.trans (hb7.mono hB6.size), by have := hb7.size; omega⟩
            · unfold trimmed restOf
              rw [trm_length]
            · rw [Hpc.out, pieces_pos hp, val_trm, hvq.out, ← hr.out]; simp
            · have := ownsRow_keep hown6 hb7
              simpa [u32s] using this
          case measure =>
            rw [worth_eq (hlim.below hb7).trimmed]
            have hlz : Limbs wr (.slice (some ⟨g, 0, none⟩) zs.length cap1) zs := by
              have := hrow.limbs hst 0 zs.length cap1 (by simp) (by omega) (by omega)
              rw [List.drop_zero, List.take_left] at this
              exact this
            rw [worth_eq hlz, val_trm, hvq.out]
            exact Nat.div_lt_self (Nat.pos_of_ne_zero hp) (by decide)

end Go.Proofs.YtkdhcpfmlelfcaaDoor
