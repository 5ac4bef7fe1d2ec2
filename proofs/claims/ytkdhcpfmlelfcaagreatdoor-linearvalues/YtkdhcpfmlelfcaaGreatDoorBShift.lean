/- The contract of left: the list of a number times a power of two, with one limb more for what is shifted out. The contract of right: the list of a number divided by a power of two that is less than a limb. -/
import Derived.Test.YtkdhcpfmlelfcaaGreatDoorBRows
import Derived.Test.YtkdhcpfmlelfcaaGreatDoorDivby

/- The contract of left: the list of a number times a power of two, with one limb more for what is shifted out. -/
namespace Go.Proofs.YtkdhcpfmlelfcaaGreatDoor
set_option linter.unusedVariables false
set_option linter.unusedSimpArgs false
open Go Go.RowKit Go.Shelf

attribute [local go_sem] Oper.semAt_some

/-- What k rounds have made of the k highest limbs. -/
def LeftInv (xs : List Nat) (rs k : Nat) (ts : List Nat) : Prop :=
  ts.length = k + 1 ∧ Small R ts ∧ val R ts = val R (xs.drop (xs.length - k)) * 2 ^ rs ∧ nth ts 0 % 2 ^ rs = 0

theorem LeftInv.zero (xs : List Nat) (rs : Nat) : LeftInv xs rs 0 [0] := ⟨rfl, fun x hx => by rw [List.mem_singleton.1 hx]; exact R_pos, by simp [val], by simp [nth]⟩

theorem pow_le31 {rs : Nat} (h : rs ≤ 31) : 2 ^ rs ≤ 2147483648 := Nat.pow_le_pow_right (n := 2) (by omega) h

theorem R_split {rs : Nat} (h : rs ≤ 31) : R = 2 ^ (32 - rs) * 2 ^ rs := by
  rw [← Nat.pow_add, show 32 - rs + rs = 32 from by omega]; rfl

theorem shifted_lt {x rs : Nat} (hx : x < R) (h : rs ≤ 31) : x * 2 ^ rs < 9223372036854775808 := by
  have h1 := pow_le31 h
  have h2 := Nat.pow_pos (n := rs) (show 0 < 2 from by omega)
  rw [R_eq] at hx
  have : x * 2 ^ rs ≤ 4294967295 * 2147483648 := Nat.mul_le_mul (by omega) h1
  omega

theorem hi_lt {x rs : Nat} (hx : x < R) : x * 2 ^ rs / 4294967296 < 2 ^ rs := by
  have h2 := Nat.pow_pos (n := rs) (show 0 < 2 from by omega)
  rw [R_eq] at hx
  rw [Nat.div_lt_iff_lt_mul (by omega), Nat.mul_comm]
  exact Nat.mul_lt_mul_of_pos_left hx h2

theorem lo_mod {x rs : Nat} (h : rs ≤ 31) : (x * 2 ^ rs % 4294967296) % 2 ^ rs = 0 := by
  have : 2 ^ rs ∣ 4294967296 := by rw [← R_eq, R_split h]; exact Nat.dvd_mul_left _ _
  rw [Nat.mod_mod_of_dvd _ this]
  exact Nat.mul_mod_left _ _

theorem join_lt {t hi rs : Nat} (h : rs ≤ 31) (ht : t < R) (hm : t % 2 ^ rs = 0) (hh : hi < 2 ^ rs) : t + hi < R := by
  have hd : 2 ^ rs ∣ t := Nat.dvd_of_mod_eq_zero hm
  obtain ⟨c, rfl⟩ := hd
  rw [R_split h, Nat.mul_comm] at ht ⊢
  have hc : c < 2 ^ (32 - rs) := by
    have h2 := Nat.pow_pos (n := rs) (show 0 < 2 from by omega)
    exact Nat.lt_of_mul_lt_mul_right (a := 2 ^ rs) ht
  have : (c + 1) * 2 ^ rs ≤ 2 ^ (32 - rs) * 2 ^ rs := Nat.mul_le_mul_right _ hc
  rw [Nat.add_mul] at this
  omega

theorem LeftInv.step {xs : List Nat} {rs k t : Nat} {rest : List Nat} (h : LeftInv xs rs k (t :: rest)) (hs : Small R xs) (hr : rs ≤ 31) (hk : k < xs.length) :
    LeftInv xs rs (k + 1) (nth xs (xs.length - 1 - k) * 2 ^ rs % 4294967296 :: (t + nth xs (xs.length - 1 - k) * 2 ^ rs / 4294967296) :: rest) := by
  obtain ⟨h1, h2, h3, h4⟩ := h
  have hx := hs.nth R_pos (xs.length - 1 - k)
  have ht : t < R := h2 t (by simp)
  have hm : t % 2 ^ rs = 0 := by simpa [nth] using h4
  refine ⟨by simp at h1 ⊢; omega, ?_, ?_, ?_⟩
  · intro y hy
    rcases List.mem_cons.1 hy with rfl | hy
    · rw [R_eq]; omega
    · rcases List.mem_cons.1 hy with rfl | hy
      · exact join_lt hr ht hm (hi_lt hx)
      · exact h2 y (by simp [hy])
  · have e : xs.drop (xs.length - (k + 1)) = nth xs (xs.length - 1 - k) :: xs.drop (xs.length - k) := by
      rw [nth_eq (by omega), List.drop_eq_getElem_cons (by omega)]
      simp only [show xs.length - (k + 1) = xs.length - 1 - k from by omega, show xs.length - 1 - k + 1 = xs.length - k from by omega]
    rw [val_cons] at h3
    have e2 : (nth xs (xs.length - 1 - k) + R * val R (xs.drop (xs.length - k))) * 2 ^ rs = nth xs (xs.length - 1 - k) * 2 ^ rs + R * (t + R * val R rest) := by rw [Nat.add_mul, Nat.mul_assoc, ← h3]
    rw [e]
    simp only [val_cons]
    rw [e2]
    generalize nth xs (xs.length - 1 - k) * 2 ^ rs = wd
    have := Nat.mod_add_div wd 4294967296
    simp only [R_eq, Nat.mul_add]
    omega
  · simp only [nth, List.getElem?_cons_zero, Option.getD_some]
    exact lo_mod hr

theorem wrap_shift {x rs wd : Nat} (h : x * 2 ^ rs = wd) (hw : wd < 9223372036854775808) : IntKind.u64.wrap ((x : Int) * 2 ^ rs) = (wd : Int) := by
  have e : (x : Int) * 2 ^ rs = ((x * 2 ^ rs : Nat) : Int) := by rw [Int.natCast_mul, Int.natCast_pow]; rfl
  rw [e, h, IntKind.wrap_u64]
  omega

theorem or_hi {t wd rs : Nat} (ht : t < 4294967296) (hw : wd < 9223372036854775808) (hm : t % 2 ^ rs = 0) (hh : wd / 4294967296 < 2 ^ rs) : bits BinOp.or IntKind.u32 (t : Int) ((wd : Int) / 4294967296) = ((t + wd / 4294967296 : Nat) : Int) := by
  have e : (wd : Int) / 4294967296 = ((wd / 4294967296 : Nat) : Int) := by omega
  rw [e, u32_or_nat _ _ ht (by omega), nat_join rs _ _ hm hh]

theorem set_two (m t a b : Nat) (rest : List Nat) (hm : 0 < m) : ((List.replicate m 0 ++ t :: rest).set m b).set (m - 1) a = List.replicate (m - 1) 0 ++ a :: b :: rest := by
  obtain ⟨m', rfl⟩ : ∃ m', m = m' + 1 := ⟨m - 1, by omega⟩
  rw [List.set_append_right _ _ (by simp), List.replicate_succ', List.append_assoc, Nat.add_sub_cancel, List.set_append_right _ _ (by simp)]
  simp

set_option maxRecDepth 100000 in
set_option maxHeartbeats 4000000 in
theorem left_calls (w : World) (sv : Value) (xs : List Nat) (n : Nat) (hx : Limbs w sv xs) (bx : xs.length ≤ 1048576) (hn : n ≤ 65536) :
    Calls Tryz.prog 149 #[sv, .int .i64 (n : Int)] w fun e w' => ∃ g zs, e = .returned (.slice (some ⟨g, 0, none⟩) zs.length zs.length) ∧ w.heap.size ≤ g ∧ Row w' g zs ∧ Small R zs ∧ zs.length = xs.length + n / 32 + 1 ∧ Hid (val R zs = val R xs * 2 ^ n) ∧ Below w.heap.size w w' := by
  obtain ⟨ao, cap, rfl⟩ := hx.len
  refine calls_of_marks Tryz.func149 rfl ?_
  simp only [Tryz.ntmps149, List.size_toArray, List.length_cons, List.length_nil, Nat.reduceAdd, Nat.reduceSub, Array.replicate_succ, Array.replicate_zero, List.push_toArray, List.append_toArray, List.nil_append, List.cons_append]
  have hdn : (n : Int) / 32 = ((n / 32 : Nat) : Int) := by omega
  have hrn : (n : Int) % 32 = ((n % 32 : Nat) : Int) := by omega
  obtain ⟨ls, hls⟩ : ∃ ls, n / 32 = ls := ⟨_, rfl⟩
  obtain ⟨rs, hrs⟩ : ∃ rs, n % 32 = rs := ⟨_, rfl⟩
  have hls2 : ls ≤ 2048 := by omega
  have hrs2 : rs ≤ 31 := by omega
  have Hn : Hid (n = 32 * ls + rs) := by show _ = _; omega
  rw [hls] at hdn
  rw [hrs] at hrn
  clear hls hrs
  go_wp2_with (first
    | (at_make; refine wpList_mk _ rfl _ rfl _ (xs.length + ls + 1) rfl (by omega) (by omega) ?_; intro w3 hr3 hb3 hz3)
    | (go_at_call 108; refine (fromTop_calls _ _ ⟨_, _, _, rfl⟩).mono ?_; rintro e w' ⟨rfl, rfl⟩))
  have hs2 : ((w.alloc (.cells #[.int .i64 (ls : Int)] 3)).alloc (.cells #[.int .i64 (rs : Int)] 3)).heap.size = w.heap.size + 1 + 1 := by simp
  have b0 := (Boxed.new w 3 (.int .i64 (ls : Int))).alloc (.cells #[.int .i64 (rs : Int)] 3)
  have b1 := Boxed.new (w.alloc (.cells #[.int .i64 (ls : Int)] 3)) 3 (.int .i64 (rs : Int))
  have hB2 : Below w.heap.size w ((w.alloc (.cells #[.int .i64 (ls : Int)] 3)).alloc (.cells #[.int .i64 (rs : Int)] 3)) := ((Below.refl _ w).alloc (Nat.le_refl _) _).alloc (by simp) _
  simp only [World.size_alloc] at b1 hr3 hz3 hb3
  replace b0 := boxed_keep b0 (by rw [hs2]; exact hb3)
  replace b1 := boxed_keep b1 (by rw [hs2]; exact hb3)
  have hB3 : Below w.heap.size w w3 := hB2.trans (hb3.mono (by omega))
  have b3 := Boxed.new w3 22 (.slice (some ⟨w.heap.size + 1 + 1, 0, none⟩) (xs.length + ls + 1) (xs.length + ls + 1))
  have b4 := Boxed.new (w3.alloc (.cells #[.slice (some ⟨w.heap.size + 1 + 1, 0, none⟩) (xs.length + ls + 1) (xs.length + ls + 1)] 22)) 22 (.slice ao xs.length cap)
  simp only [World.size_alloc, hz3] at b3 b4
  obtain ⟨Wr, hWr⟩ : ∃ Wr, (w3.alloc (.cells #[.slice (some ⟨w.heap.size + 1 + 1, 0, none⟩) (xs.length + ls + 1) (xs.length + ls + 1)] 22)).alloc (.cells #[.slice ao xs.length cap] 22) = Wr := ⟨_, rfl⟩
  have hszr : Wr.heap.size = w.heap.size + 1 + 1 + 1 + 1 + 1 := by rw [← hWr]; simp [hz3]
  have hr4 := (hr3.alloc (.cells #[.slice (some ⟨w.heap.size + 1 + 1, 0, none⟩) (xs.length + ls + 1) (xs.length + ls + 1)] 22)).alloc (.cells #[.slice ao xs.length cap] 22)
  have hB4 := (hB3.alloc hB3.size (.cells #[.slice (some ⟨w.heap.size + 1 + 1, 0, none⟩) (xs.length + ls + 1) (xs.length + ls + 1)] 22)).alloc (by simp; omega) (.cells #[.slice ao xs.length cap] 22)
  replace b0 := (b0.alloc (.cells #[.slice (some ⟨w.heap.size + 1 + 1, 0, none⟩) (xs.length + ls + 1) (xs.length + ls + 1)] 22)).alloc (.cells #[.slice ao xs.length cap] 22)
  replace b1 := (b1.alloc (.cells #[.slice (some ⟨w.heap.size + 1 + 1, 0, none⟩) (xs.length + ls + 1) (xs.length + ls + 1)] 22)).alloc (.cells #[.slice ao xs.length cap] 22)
  replace b3 := b3.alloc (.cells #[.slice ao xs.length cap] 22)
  rw [hWr] at b0 b1 b3 b4 hr4 hB4 ⊢
  have Hz := hide hszr
  have hxc := hx.cells
  clear hWr hszr hB2 hb3 hz3 hr3 hB3 hs2
  refine range_plain (gf := 123) (lb := #[.pointer (some ⟨w.heap.size + 1 + 1 + 1 + 1, 0, none⟩)]) rfl (enters_of Tryz.func123 (by kernel_rfl) rfl)
    (top_hands (w.heap.size + 1 + 1 + 1 + 1) ao xs.length cap (fun k => ((nth xs (xs.length - 1 - k) : Nat) : Int)) (by omega)) (fun _ => rfl)
    (fun k W => ∃ x : List Nat, (Boxed W w.heap.size 3 (.int .i64 (ls : Int)) ∧ Boxed W (w.heap.size + 1) 3 (.int .i64 (rs : Int)) ∧ Boxed W (w.heap.size + 1 + 1 + 1) 22 (.slice (some ⟨w.heap.size + 1 + 1, 0, none⟩) (xs.length + ls + 1) (xs.length + ls + 1)) ∧ Boxed W (w.heap.size + 1 + 1 + 1 + 1) 22 (.slice ao xs.length cap) ∧ (k ≤ xs.length ∧ LeftInv xs rs k x)) ∧ Row W (w.heap.size + 1 + 1) (List.replicate (xs.length - k + ls) 0 ++ x) ∧ Below w.heap.size w W)
    (fun _ _ _ => False)
    (own_exists fun x => OwnFrom.and (OwnFrom.and (own_boxed _ _ _ _) (OwnFrom.and (own_boxed _ _ _ _) (OwnFrom.and (own_boxed _ _ _ _) (OwnFrom.and (own_boxed _ _ _ _) (ownFrom_pure _ _))))) (OwnFrom.and (own_row _ _ (fun k => List.replicate (xs.length - k + ls) 0 ++ x)) (ownFrom_below (Nat.le_refl _) (by have := Hz.out; omega))))
    (fun _ => ownFrom_pure _ _)
    ?know ⟨[0], ⟨b0, b1, b3, b4, Nat.zero_le _, LeftInv.zero xs rs⟩, by rw [Nat.sub_zero, ← List.replicate_succ' (n := xs.length + ls)]; exact hr4, hB4⟩
    (fun k => { tmps := #[.slice ao xs.length cap, .int .i64 (n : Int), undef, undef, .slice none 0 0, .pointer (some ⟨w.heap.size, 0, none⟩), .pointer (some ⟨w.heap.size + 1, 0, none⟩), .pointer (some ⟨w.heap.size + 1 + 1 + 1, 0, none⟩), .int .i64 ((xs.length : Int) - 1 - k), .int .u32 ((nth xs (xs.length - 1 - k) : Nat) : Int), undef,
      .int .i64 (n : Int), .int .i64 (ls : Int), .int .i64 (n : Int), .int .i64 (rs : Int), .slice ao xs.length cap, .int .i64 (xs.length : Int), .int .i64 (ls : Int), .int .i64 ((xs.length : Int) + (ls : Int)), .int .i64 ((xs.length : Int) + (ls : Int) + 1), .slice (some ⟨w.heap.size + 1 + 1, 0, none⟩) (xs.length + ls + 1) (xs.length + ls + 1), .slice ao xs.length cap,
      .func (.func 123) #[] #[.pointer (some ⟨w.heap.size + 1 + 1 + 1 + 1, 0, none⟩)], .int .i64 ((xs.length : Int) - 1 - k), .int .u32 ((nth xs (xs.length - 1 - k) : Nat) : Int),
      undef, undef, undef, undef, undef, undef, undef, undef, undef, undef, undef, undef, undef, undef, undef, undef, undef, undef, undef, undef, undef, undef, undef, undef], defers := [] }) ?assign ?body ?done ?stop
  case know =>
    rintro k W ⟨x, ⟨_, _, _, hb, hk, hinv⟩, hR, hB⟩
    refine ⟨hb.cell, fun hk => ?_⟩
    obtain ⟨b, off, e, hc⟩ := hxc (xs.length - 1 - k) (by omega)
    exact ⟨b, off, e, (hB.cell (p := ⟨b, off + (xs.length - 1 - k), none⟩) (block_lt_of_cell hc)).trans hc⟩
  case assign =>
    intro l k W K hk hK
    gi_wp2
    exact hK
  case body =>
    rintro l k W hk ⟨ts, ⟨hb0, hb1, hb3, hb4, hk', hinv⟩, hR, hB⟩
    obtain ⟨t, rest, rfl⟩ : ∃ t rest, ts = t :: rest := by
      cases ts with
      | nil => exact absurd hinv.1 (by simp)
      | cons t rest => exact ⟨t, rest, rfl⟩
    have c0 := hb0.cell
    have c1 := hb1.cell
    have c3 := hb3.cell
    obtain ⟨wd, hwd⟩ : ∃ wd, nth xs (xs.length - 1 - k) * 2 ^ rs = wd := ⟨_, rfl⟩
    have Hst := hide (hinv.step (rest := rest) hx.small hrs2 hk)
    have htl : t < 4294967296 := by have := hinv.2.1 t (by simp); rw [R_eq] at this; exact this
    have hxk := hx.small.nth R_pos (xs.length - 1 - k)
    have hwl := shifted_lt hxk hrs2
    have hhi := hi_lt (rs := rs) hxk
    rw [hwd] at hwl hhi Hst
    have hwr := wrap_shift hwd hwl
    have hor := or_hi htl hwl (by simpa [nth] using hinv.2.2.2) hhi
    rw [R_eq] at hxk
    have c5 : W.cell? ⟨w.heap.size + 1 + 1, xs.length - 1 - k + ls + 1, none⟩ = some (.int .u32 (t : Int)) := by
      rw [hR.cell (by simp; omega)]
      congr 2
      unfold nth
      rw [List.getElem?_append_right (by simp; omega)]
      simp [show xs.length - 1 - k + ls + 1 - (xs.length - k + ls) = 0 from by omega]
    have c6 := hR.cell (j := xs.length - 1 - k + ls) (by simp; omega)
    have f5 := hR.frozen (xs.length - 1 - k + ls + 1)
    have f6 := hR.frozen (xs.length - 1 - k + ls)
    have HR := hide hR
    clear hwd hhi hR
    gi_wp2
    have hset := (HR.out.set (xs.length - 1 - k + ls + 1) (t + wd / 4294967296)).set (xs.length - 1 - k + ls) (wd % 4294967296)
    have e1 : xs.length - 1 - k + ls + 1 = xs.length - k + ls := by omega
    have e2 : xs.length - 1 - k + ls = xs.length - k + ls - 1 := by omega
    have e3 : xs.length - k + ls - 1 = xs.length - (k + 1) + ls := by omega
    have hl : ((List.replicate (xs.length - k + ls) 0 ++ t :: rest).set (xs.length - 1 - k + ls + 1) (t + wd / 4294967296)).set (xs.length - 1 - k + ls) (wd % 4294967296) = List.replicate (xs.length - (k + 1) + ls) 0 ++ wd % 4294967296 :: (t + wd / 4294967296) :: rest := by
      rw [e1, e2, set_two _ _ _ _ _ (by omega), e3]
    rw [hl] at hset
    have hG : But (w.heap.size + 1 + 1) W ((W.setCell ⟨w.heap.size + 1 + 1, xs.length - 1 - k + ls + 1, none⟩ (.int .u32 ((t + wd / 4294967296 : Nat) : Int))).setCell ⟨w.heap.size + 1 + 1, xs.length - 1 - k + ls, none⟩ (.int .u32 ((wd % 4294967296 : Nat) : Int))) := ((But.refl _ W).setCell (p := ⟨w.heap.size + 1 + 1, xs.length - 1 - k + ls + 1, none⟩) rfl _).setCell (p := ⟨w.heap.size + 1 + 1, xs.length - 1 - k + ls, none⟩) rfl _
    exact ⟨((KeepsOthers.setCell _ _ _).trans (KeepsOthers.setCell _ _ _)).from _, ⟨_, ⟨boxed_but hb0 hG (by omega), boxed_but hb1 hG (by omega), boxed_but hb3 hG (by omega), boxed_but hb4 hG (by omega), hk, Hst.out⟩, hset, (hB.setCell (p := ⟨w.heap.size + 1 + 1, xs.length - 1 - k + ls + 1, none⟩) (by simp; omega) _).setCell (p := ⟨w.heap.size + 1 + 1, xs.length - 1 - k + ls, none⟩) (by simp; omega) _⟩⟩
  case done =>
    rintro D W hD ⟨ts, ⟨hb0, hb1, hb3, hb4, hk', hinv⟩, hR, hB⟩ hK
    have c3 := hb3.cell
    have HR := hide hR
    clear hR
    go_wp2
    have hz := Hz.out
    refine ⟨by simp, .inl ⟨_, _, rfl, run_takeDeferred hK, ?_⟩⟩
    have hl1 := hinv.1
    have hll : (List.replicate (xs.length - xs.length + ls) 0 ++ ts).length = xs.length + ls + 1 := by simp; omega
    refine ⟨.slice (some ⟨w.heap.size + 1 + 1, 0, none⟩) (xs.length + ls + 1) (xs.length + ls + 1), results_tmp (fn := Tryz.f149) rfl _ _ _, w.heap.size + 1 + 1, List.replicate (xs.length - xs.length + ls) 0 ++ ts, by rw [hll], by omega, HR.out.putObj hK rfl _, (small_replicate _).append hinv.2.1, ?_, ?_, hB.trans (belowK_b (w := w) (Nat.le_refl _) W D _ _ (by omega) hK rfl rfl)⟩
    · rw [hll, Hn.out]; omega
    · show _ = _
      rw [val_append, val_replicate, Nat.zero_add, hinv.2.2.1, Nat.sub_self, List.drop_zero, Nat.zero_add, List.length_replicate, Hn.out, Nat.pow_add, R_eq, show (4294967296 : Nat) = 2 ^ 32 from rfl, ← Nat.pow_mul]
      rw [Nat.mul_left_comm]
  case stop =>
    rintro D c k W _ _ h _
    exact h.elim

/-- The same, from whatever later world. -/
theorem left_from (W2 W : World) (hW : Below W2.heap.size W2 W) (sv : Value) (xs : List Nat) (n : Nat) (hx : Limbs W2 sv xs) (bx : xs.length ≤ 1048576) (hn : n ≤ 65536) :
    Calls Tryz.prog 149 #[sv, .int .i64 (n : Int)] W fun e w' => ∃ g zs, e = .returned (.slice (some ⟨g, 0, none⟩) zs.length zs.length) ∧ W.heap.size ≤ g ∧ Row w' g zs ∧ Small R zs ∧ zs.length = xs.length + n / 32 + 1 ∧ Hid (val R zs = val R xs * 2 ^ n) ∧ Below W.heap.size W w' ∧ Below W2.heap.size W2 w' ∧ W2.heap.size ≤ g := by
  refine (left_calls W sv xs n (hx.below hW) bx hn).mono ?_
  rintro e w' ⟨g, zs, h1, h2, h3, h4, h5, h6, h7⟩
  exact ⟨g, zs, h1, h2, h3, h4, h5, h6, h7, hW.trans (h7.mono hW.size), Nat.le_trans hW.size h2⟩

end Go.Proofs.YtkdhcpfmlelfcaaGreatDoor

/- The contract of right: the list of a number divided by a power of two that is less than a limb. -/
namespace Go.Proofs.YtkdhcpfmlelfcaaGreatDoor
set_option linter.unusedVariables false
set_option linter.unusedSimpArgs false
open Go Go.RowKit Go.Shelf

attribute [local go_sem] Oper.semAt_some

/-- What k rounds have made of the k highest limbs. -/
def RightInv (xs : List Nat) (n k : Nat) (ts : List Nat) (ab : Nat) : Prop :=
  ts.length = k ∧ Small R ts ∧ ab < R ∧ val R ts = val R (xs.drop (xs.length - k)) / 2 ^ n ∧ ab % 2 ^ n = val R (xs.drop (xs.length - k)) % 2 ^ n

theorem RightInv.zero (xs : List Nat) (n : Nat) : RightInv xs n 0 [] 0 := ⟨rfl, Small.nil _, R_pos, by simp [val], by simp [val]⟩

theorem pow_pos2 (n : Nat) : 0 < 2 ^ n := Nat.pow_pos (by omega)

theorem new_lt {x a n : Nat} (hn : n ≤ 31) (hx : x < R) : x / 2 ^ n + a % 2 ^ n * 2 ^ (32 - n) < R := by
  have h1 : x / 2 ^ n < 2 ^ (32 - n) := by
    rw [Nat.div_lt_iff_lt_mul (pow_pos2 n), ← R_split hn]; exact hx
  have h2 : a % 2 ^ n < 2 ^ n := Nat.mod_lt _ (pow_pos2 n)
  have h3 : (a % 2 ^ n + 1) * 2 ^ (32 - n) ≤ 2 ^ n * 2 ^ (32 - n) := Nat.mul_le_mul_right _ h2
  rw [Nat.mul_comm (2 ^ n), ← R_split hn, Nat.add_mul] at h3
  omega

theorem div_step {x V n : Nat} (hn : n ≤ 31) : (x + R * V) / 2 ^ n = x / 2 ^ n + V % 2 ^ n * 2 ^ (32 - n) + R * (V / 2 ^ n) := by
  have e : R * V = 2 ^ n * (2 ^ (32 - n) * V) := by rw [R_split hn, Nat.mul_comm (2 ^ (32 - n)), Nat.mul_assoc]
  rw [e, Nat.add_mul_div_left _ _ (pow_pos2 n)]
  have h := Nat.div_add_mod V (2 ^ n)
  have e2 : 2 ^ (32 - n) * V = R * (V / 2 ^ n) + V % 2 ^ n * 2 ^ (32 - n) := by
    conv => lhs; rw [← h]
    rw [Nat.mul_add, ← Nat.mul_assoc, ← R_split hn, Nat.mul_comm (2 ^ (32 - n)) (V % 2 ^ n)]
  rw [e2]
  omega

theorem mod_step {x V n : Nat} (hn : n ≤ 31) : (x + R * V) % 2 ^ n = x % 2 ^ n := by
  rw [R_split hn, Nat.mul_comm (2 ^ (32 - n)), Nat.mul_assoc, Nat.add_mul_mod_self_left]

theorem RightInv.step {xs ts : List Nat} {n k ab : Nat} (h : RightInv xs n k ts ab) (hs : Small R xs) (hn : n ≤ 31) (hk : k < xs.length) :
    RightInv xs n (k + 1) ((nth xs (xs.length - 1 - k) / 2 ^ n + ab % 2 ^ n * 2 ^ (32 - n)) :: ts) (nth xs (xs.length - 1 - k)) := by
  obtain ⟨h1, h2, h3, h4, h5⟩ := h
  have hx := hs.nth R_pos (xs.length - 1 - k)
  have e : xs.drop (xs.length - (k + 1)) = nth xs (xs.length - 1 - k) :: xs.drop (xs.length - k) := by
    rw [nth_eq (by omega), List.drop_eq_getElem_cons (by omega)]
    simp only [show xs.length - (k + 1) = xs.length - 1 - k from by omega, show xs.length - 1 - k + 1 = xs.length - k from by omega]
  refine ⟨by simp [h1], ?_, hx, ?_, ?_⟩
  · intro y hy
    rcases List.mem_cons.1 hy with rfl | hy
    · exact new_lt hn hx
    · exact h2 y hy
  · rw [e, val_cons, val_cons, div_step hn, h4, h5]
  · rw [e, val_cons, mod_step hn]

theorem shr_nat (x n : Nat) : (x : Int) / 2 ^ n = ((x / 2 ^ n : Nat) : Int) := by
  rw [Int.natCast_ediv, Int.natCast_pow]; rfl

theorem shl_mod {a n : Nat} (hn : n ≤ 31) : a * 2 ^ (32 - n) % 4294967296 = a % 2 ^ n * 2 ^ (32 - n) := by
  rw [← R_eq, R_split hn, Nat.mul_comm (2 ^ (32 - n)) (2 ^ n), Nat.mul_mod_mul_right]

theorem or_right {x ab n sh : Nat} (hn : n ≤ 31) (hx : x < R) (hs : ab % 2 ^ n * 2 ^ (32 - n) = sh) : bits BinOp.or IntKind.u32 ((x : Int) / 2 ^ n) (sh : Int) = ((x / 2 ^ n + sh : Nat) : Int) := by
  have h1 : x / 2 ^ n < 2 ^ (32 - n) := by
    rw [Nat.div_lt_iff_lt_mul (pow_pos2 n), ← R_split hn]; exact hx
  have h2 := new_lt (a := ab) hn hx
  rw [hs, R_eq] at h2
  have h4 : sh < 4294967296 := Nat.lt_of_le_of_lt (Nat.le_add_left _ _) h2
  have h3 : x / 2 ^ n < 4294967296 := by
    have := Nat.div_le_self x (2 ^ n); rw [R_eq] at hx; omega
  rw [shr_nat, u32_or_nat _ _ h3 h4, Nat.or_comm, nat_join (32 - n) sh _ (by rw [← hs]; exact Nat.mul_mod_left _ _) h1, Nat.add_comm]

theorem wrap_right {ab m sh : Nat} (hm : m ≤ 32) (h : ab * 2 ^ m % 4294967296 = sh) : (ab : Int) * 2 ^ min m 32 % 4294967296 = (sh : Int) := by
  have e : (ab : Int) * 2 ^ m = ((ab * 2 ^ m : Nat) : Int) := by rw [Int.natCast_mul, Int.natCast_pow]; rfl
  rw [Nat.min_eq_left hm, e, ← h]
  rfl

set_option maxRecDepth 100000 in
set_option maxHeartbeats 4000000 in
theorem right_calls (w : World) (sv : Value) (xs : List Nat) (n : Nat) (hx : Limbs w sv xs) (bx : xs.length ≤ 1048577) (hn : n ≤ 31) :
    Calls Tryz.prog 153 #[sv, .int .i64 (n : Int)] w fun e w' => ∃ g zs, e = .returned (.slice (some ⟨g, 0, none⟩) zs.length zs.length) ∧ w.heap.size ≤ g ∧ Row w' g zs ∧ Small R zs ∧ zs.length = xs.length ∧ Hid (val R zs = val R xs / 2 ^ n) ∧ Below w.heap.size w w' := by
  obtain ⟨ao, cap, rfl⟩ := hx.len
  refine calls_of_marks Tryz.func153 rfl ?_
  simp only [Tryz.ntmps153, List.size_toArray, List.length_cons, List.length_nil, Nat.reduceAdd, Nat.reduceSub, Array.replicate_succ, Array.replicate_zero, List.push_toArray, List.append_toArray, List.nil_append, List.cons_append]
  go_wp2_with (first
    | (at_make; refine wpList_mk _ rfl _ rfl _ xs.length rfl rfl (by omega) ?_; intro w3 hr3 hb3 hz3)
    | (go_at_call 108; refine (fromTop_calls _ _ ⟨_, _, _, rfl⟩).mono ?_; rintro e w' ⟨rfl, rfl⟩))
  have b0 := Boxed.new w 3 (.int .i64 (n : Int))
  have hB2 : Below w.heap.size w (w.alloc (.cells #[.int .i64 (n : Int)] 3)) := (Below.refl _ w).alloc (Nat.le_refl _) _
  simp only [World.size_alloc] at hr3 hz3 hb3
  replace b0 := boxed_keep b0 (by rw [World.size_alloc]; exact hb3)
  have hB3 : Below w.heap.size w w3 := hB2.trans (hb3.mono (by omega))
  have b3 := Boxed.new w3 22 (.slice (some ⟨w.heap.size + 1, 0, none⟩) xs.length xs.length)
  have b5 := Boxed.new (w3.alloc (.cells #[.slice (some ⟨w.heap.size + 1, 0, none⟩) xs.length xs.length] 22)) 136 (.int .u32 0)
  have b4 := Boxed.new ((w3.alloc (.cells #[.slice (some ⟨w.heap.size + 1, 0, none⟩) xs.length xs.length] 22)).alloc (.cells #[.int .u32 0] 136)) 22 (.slice ao xs.length cap)
  simp only [World.size_alloc, hz3] at b3 b4 b5
  obtain ⟨Wr, hWr⟩ : ∃ Wr, ((w3.alloc (.cells #[.slice (some ⟨w.heap.size + 1, 0, none⟩) xs.length xs.length] 22)).alloc (.cells #[.int .u32 0] 136)).alloc (.cells #[.slice ao xs.length cap] 22) = Wr := ⟨_, rfl⟩
  have hszr : Wr.heap.size = w.heap.size + 1 + 1 + 1 + 1 + 1 := by rw [← hWr]; simp [hz3]
  have hr4 := ((hr3.alloc (.cells #[.slice (some ⟨w.heap.size + 1, 0, none⟩) xs.length xs.length] 22)).alloc (.cells #[.int .u32 0] 136)).alloc (.cells #[.slice ao xs.length cap] 22)
  have hB4 := ((hB3.alloc hB3.size (.cells #[.slice (some ⟨w.heap.size + 1, 0, none⟩) xs.length xs.length] 22)).alloc (by simp; omega) (.cells #[.int .u32 0] 136)).alloc (by simp; omega) (.cells #[.slice ao xs.length cap] 22)
  replace b0 := ((b0.alloc (.cells #[.slice (some ⟨w.heap.size + 1, 0, none⟩) xs.length xs.length] 22)).alloc (.cells #[.int .u32 0] 136)).alloc (.cells #[.slice ao xs.length cap] 22)
  replace b3 := (b3.alloc (.cells #[.int .u32 0] 136)).alloc (.cells #[.slice ao xs.length cap] 22)
  replace b5 := b5.alloc (.cells #[.slice ao xs.length cap] 22)
  rw [hWr] at b0 b3 b4 b5 hr4 hB4 ⊢
  have Hz := hide hszr
  have hxc := hx.cells
  clear hWr hszr hB2 hb3 hz3 hr3 hB3
  refine range_plain (gf := 123) (lb := #[.pointer (some ⟨w.heap.size + 1 + 1 + 1 + 1, 0, none⟩)]) rfl (enters_of Tryz.func123 (by kernel_rfl) rfl)
    (top_hands (w.heap.size + 1 + 1 + 1 + 1) ao xs.length cap (fun k => ((nth xs (xs.length - 1 - k) : Nat) : Int)) (by omega)) (fun _ => rfl)
    (fun k W => ∃ x : List Nat × Nat, (Boxed W w.heap.size 3 (.int .i64 (n : Int)) ∧ Boxed W (w.heap.size + 1 + 1) 22 (.slice (some ⟨w.heap.size + 1, 0, none⟩) xs.length xs.length) ∧ Boxed W (w.heap.size + 1 + 1 + 1) 136 (.int .u32 ((x.2 : Nat) : Int)) ∧ Boxed W (w.heap.size + 1 + 1 + 1 + 1) 22 (.slice ao xs.length cap) ∧ (k ≤ xs.length ∧ RightInv xs n k x.1 x.2)) ∧ Row W (w.heap.size + 1) (List.replicate (xs.length - k) 0 ++ x.1) ∧ Below w.heap.size w W)
    (fun _ _ _ => False)
    (own_exists fun x => OwnFrom.and (OwnFrom.and (own_boxed _ _ _ _) (OwnFrom.and (own_boxed _ _ _ _) (OwnFrom.and (own_boxed _ _ _ _) (OwnFrom.and (own_boxed _ _ _ _) (ownFrom_pure _ _))))) (OwnFrom.and (own_row _ _ (fun k => List.replicate (xs.length - k) 0 ++ x.1)) (ownFrom_below (Nat.le_refl _) (by have := Hz.out; omega))))
    (fun _ => ownFrom_pure _ _)
    ?know ⟨([], 0), ⟨b0, b3, b5, b4, Nat.zero_le _, RightInv.zero xs n⟩, by simpa using hr4, hB4⟩
    (fun k => { tmps := #[.slice ao xs.length cap, .int .i64 (n : Int), undef, .pointer (some ⟨w.heap.size, 0, none⟩), .slice none 0 0, .pointer (some ⟨w.heap.size + 1 + 1, 0, none⟩), .pointer (some ⟨w.heap.size + 1 + 1 + 1, 0, none⟩), .int .i64 ((xs.length : Int) - 1 - k), .int .u32 ((nth xs (xs.length - 1 - k) : Nat) : Int),
      .slice ao xs.length cap, .int .i64 (xs.length : Int), .slice (some ⟨w.heap.size + 1, 0, none⟩) xs.length xs.length, .slice ao xs.length cap,
      .func (.func 123) #[] #[.pointer (some ⟨w.heap.size + 1 + 1 + 1 + 1, 0, none⟩)], .int .i64 ((xs.length : Int) - 1 - k), .int .u32 ((nth xs (xs.length - 1 - k) : Nat) : Int),
      undef, undef, undef, undef, undef, undef, undef, undef, undef, undef, undef, undef, undef], defers := [] }) ?assign ?body ?done ?stop
  case know =>
    rintro k W ⟨x, ⟨_, _, _, hb, hk, hinv⟩, hR, hB⟩
    refine ⟨hb.cell, fun hk => ?_⟩
    obtain ⟨b, off, e, hc⟩ := hxc (xs.length - 1 - k) (by omega)
    exact ⟨b, off, e, (hB.cell (p := ⟨b, off + (xs.length - 1 - k), none⟩) (block_lt_of_cell hc)).trans hc⟩
  case assign =>
    intro l k W K hk hK
    gi_wp2
    exact hK
  case body =>
    rintro l k W hk ⟨⟨ts, ab⟩, hall⟩
    dsimp only at hall
    obtain ⟨⟨hb0, hb3, hb5, hb4, hk', hinv⟩, hR, hB⟩ := hall
    have c0 := hb0.cell
    have c3 := hb3.cell
    have c5 := hb5.cell
    have f5 := hb5.frozen
    have Hst := hide (hinv.step hx.small hn hk)
    have hab := hinv.2.2.1
    have hxk := hx.small.nth R_pos (xs.length - 1 - k)
    rw [R_eq] at hxk hab
    have c6 := hR.cell (j := xs.length - 1 - k) (by simp; omega)
    have f6 := hR.frozen (xs.length - 1 - k)
    have HR := hide hR
    obtain ⟨m, hm⟩ : ∃ m, 32 - n = m := ⟨_, rfl⟩
    obtain ⟨sh, hsh⟩ : ∃ sh, ab % 2 ^ n * 2 ^ (32 - n) = sh := ⟨_, rfl⟩
    have hsl := wrap_right (ab := ab) (m := m) (sh := sh) (by omega) (by rw [← hm, shl_mod hn, hsh])
    have hor := or_right (ab := ab) hn (by rw [R_eq]; exact hxk) hsh
    have hwn : IntKind.i64.wrap (32 - (n : Int)) = (m : Int) := by rw [IntKind.wrap_i64]; omega
    rw [hsh] at Hst
    obtain ⟨nw, hnw⟩ : ∃ nw, nth xs (xs.length - 1 - k) / 2 ^ n + sh = nw := ⟨_, rfl⟩
    rw [hnw] at hor Hst
    clear hR hm hsh hnw
    gi_wp2
    refine round_still 1 l 10 (by kernel_rfl) (by decide +kernel) (no_defer (by simp)) (by rintro ⟨_, _, h⟩; exact h) ?_
    simp only [List.take_succ_cons, List.take_zero, List.drop_succ_cons, List.drop_zero]
    repeat still_step
    refine wpStill_nil ?_
    go_wp2
    gi_wp2
    have hset := (HR.out.set (xs.length - 1 - k) nw).other (a := ⟨w.heap.size + 1 + 1 + 1, 0, none⟩) (show w.heap.size + 1 ≠ w.heap.size + 1 + 1 + 1 from by omega) (.int .u32 ((nth xs (xs.length - 1 - k) : Nat) : Int))
    have hl : (List.replicate (xs.length - k) 0 ++ ts).set (xs.length - 1 - k) nw = List.replicate (xs.length - (k + 1)) 0 ++ nw :: ts := by
      have := set_take (List.replicate xs.length 0) ts k nw (by simpa using hk)
      simp only [List.length_replicate, List.take_replicate, Nat.min_eq_left (Nat.sub_le _ _)] at this
      exact this
    rw [hl] at hset
    have g1 : But (w.heap.size + 1) W (W.setCell ⟨w.heap.size + 1, xs.length - 1 - k, none⟩ (.int .u32 (nw : Int))) := (But.refl _ W).setCell (p := ⟨w.heap.size + 1, xs.length - 1 - k, none⟩) rfl _
    have g2 : But (w.heap.size + 1 + 1 + 1) (W.setCell ⟨w.heap.size + 1, xs.length - 1 - k, none⟩ (.int .u32 (nw : Int))) ((W.setCell ⟨w.heap.size + 1, xs.length - 1 - k, none⟩ (.int .u32 (nw : Int))).setCell ⟨w.heap.size + 1 + 1 + 1, 0, none⟩ (.int .u32 ((nth xs (xs.length - 1 - k) : Nat) : Int))) := (But.refl _ _).setCell (p := ⟨w.heap.size + 1 + 1 + 1, 0, none⟩) rfl _
    have hc0 := boxed_but (boxed_but hb0 g1 (by omega)) g2 (by omega)
    have hc3 := boxed_but (boxed_but hb3 g1 (by omega)) g2 (by omega)
    have hc4 := boxed_but (boxed_but hb4 g1 (by omega)) g2 (by omega)
    have hc5 := (boxed_but hb5 g1 (by omega)).set (.int .u32 ((nth xs (xs.length - 1 - k) : Nat) : Int))
    exact ⟨(((KeepsOthers.setCell _ _ _).trans (KeepsOthers.setCell _ _ _)).trans (KeepsOthers.drew _)).from _, ⟨(nw :: ts, nth xs (xs.length - 1 - k)), ⟨hc0, hc3, hc5, hc4, hk, Hst.out⟩, hset, ((hB.setCell (p := ⟨w.heap.size + 1, xs.length - 1 - k, none⟩) (by simp) _).setCell (p := ⟨w.heap.size + 1 + 1 + 1, 0, none⟩) (by simp; omega) _).drew⟩⟩
  case done =>
    rintro D W hD ⟨⟨ts, ab⟩, hall⟩ hK
    dsimp only at hall
    obtain ⟨⟨hb0, hb3, hb5, hb4, hk', hinv⟩, hR, hB⟩ := hall
    have c3 := hb3.cell
    have HR := hide hR
    clear hR
    go_wp2
    have hz := Hz.out
    refine ⟨by simp, .inl ⟨_, _, rfl, run_takeDeferred hK, ?_⟩⟩
    have hl1 := hinv.1
    have hll : (List.replicate (xs.length - xs.length) 0 ++ ts).length = xs.length := by simp; omega
    refine ⟨.slice (some ⟨w.heap.size + 1, 0, none⟩) xs.length xs.length, results_tmp (fn := Tryz.f153) rfl _ _ _, w.heap.size + 1, List.replicate (xs.length - xs.length) 0 ++ ts, by rw [hll], by omega, HR.out.putObj hK rfl _, (small_replicate _).append hinv.2.1, hll, ?_, hB.trans (belowK_b (w := w) (Nat.le_refl _) W D _ _ (by omega) hK rfl rfl)⟩
    show _ = _
    rw [val_append, val_replicate, Nat.zero_add, hinv.2.2.2.1, Nat.sub_self, List.drop_zero]
    simp
  case stop =>
    rintro D c k W _ _ h _
    exact h.elim

theorem right_from (Wd W : World) (hW : Below Wd.heap.size Wd W) (sv : Value) (xs : List Nat) (n : Nat) (hx : Limbs Wd sv xs) (bx : xs.length ≤ 1048577) (hn : n ≤ 31) :
    Calls Tryz.prog 153 #[sv, .int .i64 (n : Int)] W fun e w' => ∃ g zs, e = .returned (.slice (some ⟨g, 0, none⟩) zs.length zs.length) ∧ Wd.heap.size ≤ g ∧ Row w' g zs ∧ Small R zs ∧ zs.length = xs.length ∧ Hid (val R zs = val R xs / 2 ^ n) ∧ Below Wd.heap.size Wd w' := by
  refine (right_calls W sv xs n (hx.below hW) bx hn).mono ?_
  rintro e w' ⟨g, zs, h1, h2, h3, h4, h5, h6, h7⟩
  exact ⟨g, zs, h1, Nat.le_trans hW.size h2, h3, h4, h5, h6, hW.trans (h7.mono hW.size)⟩

end Go.Proofs.YtkdhcpfmlelfcaaGreatDoor
