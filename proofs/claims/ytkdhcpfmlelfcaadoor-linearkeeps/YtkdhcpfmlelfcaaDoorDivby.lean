/- The contract of divideBy: the list becomes its quotient by one limb, in place; the rest is handed back. -/
import Derived.Test.YtkdhcpfmlelfcaaDoorBRows
namespace Go.Proofs.YtkdhcpfmlelfcaaDoor
set_option linter.unusedVariables false
set_option linter.unusedSimpArgs false
open Go Go.RowKit Go.Shelf

attribute [local go_sem] Oper.semAt_some

/-- What k rounds have made of the k highest limbs. -/
def DivInv (zs : List Nat) (d k : Nat) (qs : List Nat) (r : Nat) : Prop :=
  qs.length = k ∧ Small R qs ∧ r < d ∧ val R (zs.drop (zs.length - k)) = val R qs * d + r

theorem wide_lt {r d x : Nat} (hr : r < d) (hx : x < R) : (r * 4294967296 + x) / d < 4294967296 := by
  rw [R_eq] at hx
  rw [Nat.div_lt_iff_lt_mul (by omega)]
  have : (r + 1) * 4294967296 ≤ d * 4294967296 := Nat.mul_le_mul_right _ hr
  rw [Nat.mul_comm]
  omega

theorem DivInv.step {zs qs : List Nat} {d k r : Nat} (h : DivInv zs d k qs r) (hs : Small R zs) (hk : k < zs.length) (hd : 0 < d) :
    DivInv zs d (k + 1) ((r * 4294967296 + nth zs (zs.length - 1 - k)) / d :: qs) ((r * 4294967296 + nth zs (zs.length - 1 - k)) % d) := by
  obtain ⟨h1, h2, h3, h4⟩ := h
  have hx := hs.nth R_pos (zs.length - 1 - k)
  have hq := wide_lt h3 hx
  refine ⟨by simp [h1], ?_, Nat.mod_lt _ hd, ?_⟩
  · intro y hy
    rcases List.mem_cons.1 hy with rfl | hy
    · rw [R_eq]; exact hq
    · exact h2 y hy
  · have e : zs.drop (zs.length - (k + 1)) = nth zs (zs.length - 1 - k) :: zs.drop (zs.length - k) := by
      rw [nth_eq (by omega), List.drop_eq_getElem_cons (by omega)]
      simp only [show zs.length - (k + 1) = zs.length - 1 - k from by omega, show zs.length - 1 - k + 1 = zs.length - k from by omega]
    rw [e, val_cons, h4, val_cons]
    generalize nth zs (zs.length - 1 - k) = x at *
    have hdm := Nat.div_add_mod (r * 4294967296 + x) d
    generalize (r * 4294967296 + x) / d = q at *
    generalize (r * 4294967296 + x) % d = r' at *
    have e1 : (q + R * val R qs) * d = d * q + R * (val R qs * d) := by rw [Nat.add_mul, Nat.mul_comm q d, Nat.mul_assoc]
    rw [e1, Nat.mul_add, R_eq]
    omega

theorem set_take (zs rest : List Nat) (k v : Nat) (hk : k < zs.length) : (zs.take (zs.length - k) ++ rest).set (zs.length - 1 - k) v = zs.take (zs.length - (k + 1)) ++ v :: rest := by
  have e : zs.take (zs.length - k) = zs.take (zs.length - (k + 1)) ++ [zs[zs.length - (k + 1)]] := by
    rw [show zs.length - k = (zs.length - (k + 1)) + 1 from by omega, List.take_succ_eq_append_getElem (by omega)]
  rw [e, List.append_assoc, List.set_append_right _ _ (by simp; omega)]
  rw [show zs.length - 1 - k - (zs.take (zs.length - (k + 1))).length = 0 from by simp; omega]
  rfl

theorem or_join (r x : Nat) (hr : r < 4294967296) (hx : x < 4294967296) : bits BinOp.or .u64 ((r : Int) * 4294967296) (x : Int) = (r : Int) * 4294967296 + (x : Int) := by
  have e : ((r : Int) * 4294967296) = ((r * 4294967296 : Nat) : Int) := by omega
  rw [e, u64_or_nat _ _ (by omega) (by omega), nat_join 32 _ _ (by show r * 4294967296 % 4294967296 = 0; omega) (by show x < 4294967296; omega)]
  omega

theorem wrap64_of {n : Nat} (h : n < 18446744073709551616) : IntKind.u64.wrap (n : Int) = (n : Int) := by rw [IntKind.wrap_u64]; omega
theorem wrap32_of {n : Nat} (h : n < 4294967296) : IntKind.u32.wrap (n : Int) = (n : Int) := by rw [IntKind.wrap_u32']; omega

set_option maxRecDepth 100000 in
set_option maxHeartbeats 4000000 in
theorem divideBy_calls (w : World) (g cap d : Nat) (zs rest : List Nat) (hrow : Row w g (zs ++ rest)) (hs : Small R zs) (hc : zs.length ≤ cap) (hcap : cap ≤ 70368744177664) (hb : zs.length ≤ 1048577) (hd : 0 < d) (hd2 : d < 4294967296) :
    Calls Tryd.prog 79 #[.slice (some ⟨g, 0, none⟩) zs.length cap, .int .u32 (d : Int)] w fun e w' => ∃ qs : List Nat, e = .returned (.int .u32 ((val R zs % d : Nat) : Int)) ∧ qs.length = zs.length ∧ Small R qs ∧ val R qs = val R zs / d ∧ Row w' g (qs ++ rest) ∧ But g w w' := by
  refine calls_of_marks Tryd.func79 rfl ?_
  simp only [Tryd.ntmps79, List.size_toArray, List.length_cons, List.length_nil, Nat.reduceAdd, Nat.reduceSub, Array.replicate_succ, Array.replicate_zero, List.push_toArray, List.append_toArray, List.nil_append, List.cons_append]
  have hg := hrow.lt
  go_wp2_with (go_at_call 60; refine (fromTop_calls _ _ ⟨_, _, _, rfl⟩).mono ?_; rintro e w' ⟨rfl, rfl⟩)
  have b0 := Boxed.new w 22 (.slice (some ⟨g, 0, none⟩) zs.length cap)
  have b1 := Boxed.new (w.alloc (.cells #[.slice (some ⟨g, 0, none⟩) zs.length cap] 22)) 53 (.int .u32 (d : Int))
  have b2 := Boxed.new ((w.alloc (.cells #[.slice (some ⟨g, 0, none⟩) zs.length cap] 22)).alloc (.cells #[.int .u32 (d : Int)] 53)) 56 (.int .u64 0)
  have b3 := Boxed.new (((w.alloc (.cells #[.slice (some ⟨g, 0, none⟩) zs.length cap] 22)).alloc (.cells #[.int .u32 (d : Int)] 53)).alloc (.cells #[.int .u64 0] 56)) 22 (.slice (some ⟨g, 0, none⟩) zs.length cap)
  have hR0 := (((hrow.alloc (.cells #[.slice (some ⟨g, 0, none⟩) zs.length cap] 22)).alloc (.cells #[.int .u32 (d : Int)] 53)).alloc (.cells #[.int .u64 0] 56)).alloc (.cells #[.slice (some ⟨g, 0, none⟩) zs.length cap] 22)
  have hB0 : But g w ((((w.alloc (.cells #[.slice (some ⟨g, 0, none⟩) zs.length cap] 22)).alloc (.cells #[.int .u32 (d : Int)] 53)).alloc (.cells #[.int .u64 0] 56)).alloc (.cells #[.slice (some ⟨g, 0, none⟩) zs.length cap] 22)) := ((((But.refl g w).alloc _).alloc _).alloc _).alloc _
  simp only [World.size_alloc] at b1 b2 b3
  replace b0 := ((b0.alloc (.cells #[.int .u32 (d : Int)] 53)).alloc (.cells #[.int .u64 0] 56)).alloc (.cells #[.slice (some ⟨g, 0, none⟩) zs.length cap] 22)
  replace b1 := (b1.alloc (.cells #[.int .u64 0] 56)).alloc (.cells #[.slice (some ⟨g, 0, none⟩) zs.length cap] 22)
  replace b2 := b2.alloc (.cells #[.slice (some ⟨g, 0, none⟩) zs.length cap] 22)
  obtain ⟨Wr, hWr⟩ : ∃ Wr, (((w.alloc (.cells #[.slice (some ⟨g, 0, none⟩) zs.length cap] 22)).alloc (.cells #[.int .u32 (d : Int)] 53)).alloc (.cells #[.int .u64 0] 56)).alloc (.cells #[.slice (some ⟨g, 0, none⟩) zs.length cap] 22) = Wr := ⟨_, rfl⟩
  have hszr : Wr.heap.size = w.heap.size + 1 + 1 + 1 + 1 := by rw [← hWr]; simp
  rw [hWr] at b0 b1 b2 b3 hR0 hB0 ⊢
  have Hz := hide hszr
  clear hWr hszr
  refine range_plain (gf := 77) (lb := #[.pointer (some ⟨w.heap.size + 1 + 1 + 1, 0, none⟩)]) rfl (enters_of Tryd.func77 (by kernel_rfl) rfl)
    (top_hands (w.heap.size + 1 + 1 + 1) (some ⟨g, 0, none⟩) zs.length cap (fun k => ((nth zs (zs.length - 1 - k) : Nat) : Int)) (by omega)) (fun _ => rfl)
    (fun k W => ∃ x : List Nat × Nat, (Boxed W w.heap.size 22 (.slice (some ⟨g, 0, none⟩) zs.length cap) ∧ Boxed W (w.heap.size + 1) 53 (.int .u32 (d : Int)) ∧ Boxed W (w.heap.size + 1 + 1) 56 (.int .u64 ((x.2 : Nat) : Int)) ∧ Boxed W (w.heap.size + 1 + 1 + 1) 22 (.slice (some ⟨g, 0, none⟩) zs.length cap) ∧ (k ≤ zs.length ∧ DivInv zs d k x.1 x.2)) ∧ Row W g (zs.take (zs.length - k) ++ (x.1 ++ rest)) ∧ But g w W)
    (fun _ _ _ => False)
    (own_exists fun x => OwnFrom.and (OwnFrom.and (own_boxed _ _ _ _) (OwnFrom.and (own_boxed _ _ _ _) (OwnFrom.and (own_boxed _ _ _ _) (OwnFrom.and (own_boxed _ _ _ _) (ownFrom_pure _ _))))) (OwnFrom.and (own_row g _ (fun k => zs.take (zs.length - k) ++ (x.1 ++ rest))) (own_but (by have := Hz.out; omega))))
    (fun _ => ownFrom_pure _ _)
    ?know ⟨([], 0), ⟨b0, b1, b2, b3, Nat.zero_le _, rfl, Small.nil _, hd, by simp [val]⟩, by simpa using hR0, hB0⟩
    (fun k => { tmps := #[.slice (some ⟨g, 0, none⟩) zs.length cap, .int .u32 (d : Int), .pointer (some ⟨w.heap.size, 0, none⟩), .pointer (some ⟨w.heap.size + 1, 0, none⟩), .int .u32 0, .pointer (some ⟨w.heap.size + 1 + 1, 0, none⟩), .int .i64 ((zs.length : Int) - 1 - k), .int .u32 ((nth zs (zs.length - 1 - k) : Nat) : Int), undef,
      .slice (some ⟨g, 0, none⟩) zs.length cap, .func (.func 77) #[] #[.pointer (some ⟨w.heap.size + 1 + 1 + 1, 0, none⟩)], .int .i64 ((zs.length : Int) - 1 - k), .int .u32 ((nth zs (zs.length - 1 - k) : Nat) : Int),
      undef, undef, undef, undef, undef, undef, undef, undef, undef, undef, undef, undef, undef, undef, undef, undef, undef, undef, undef], defers := [] }) ?assign ?body ?done ?stop
  case know =>
    rintro k W ⟨x, ⟨_, _, _, hb, hk, hinv⟩, hR, _⟩
    refine ⟨hb.cell, fun hk => ⟨g, 0, rfl, ?_⟩⟩
    have := hR.cell (j := zs.length - 1 - k) (by simp; omega)
    rw [Nat.zero_add, this]
    congr 2
    have : nth (zs.take (zs.length - k) ++ (x.1 ++ rest)) (zs.length - 1 - k) = nth zs (zs.length - 1 - k) := by
      rw [← nth_take (xs := zs) (n := zs.length - k) (by omega)]
      unfold nth
      rw [List.getElem?_append_left (by simp; omega)]
    rw [this]
  case assign =>
    intro l k W K hk hK
    gi_wp2
    exact hK
  case body =>
    rintro l k W hk ⟨⟨qs, r⟩, hall⟩
    dsimp only at hall
    obtain ⟨⟨hb0, hb1, hb2, hb3, hk', hinv⟩, hR, hB⟩ := hall
    have c0 := hb0.cell
    have c1 := hb1.cell
    have c2 := hb2.cell
    have f2 := hb2.frozen
    have c3 := hR.cell (j := zs.length - 1 - k) (by simp; omega)
    have f3 := hR.frozen (zs.length - 1 - k)
    have hr := hinv.2.2.1
    have hx := hs.nth R_pos (zs.length - 1 - k)
    have hq := wide_lt hr hx
    rw [R_eq] at hx
    have hj := or_join r (nth zs (zs.length - 1 - k)) (by omega) hx
    obtain ⟨wd, hwd⟩ : ∃ wd, r * 4294967296 + nth zs (zs.length - 1 - k) = wd := ⟨_, rfl⟩
    have hwd2 : (r : Int) * 4294967296 + ((nth zs (zs.length - 1 - k) : Nat) : Int) = (wd : Int) := by omega
    have hwl : wd < 18446744073709551616 := by omega
    have hquo : ((wd : Int)).tdiv (d : Int) = ((wd / d : Nat) : Int) := rfl
    have hrem : ((wd : Int)).tmod (d : Int) = ((wd % d : Nat) : Int) := rfl
    have hd1 : d ≠ 0 := by omega
    have hdw : IntKind.u64.wrap (d : Int) = (d : Int) := wrap64_of (by omega)
    have Hst := hide (hinv.step hs hk hd)
    rw [hwd] at hq Hst
    rw [hwd2] at hj
    obtain ⟨q, hqe⟩ : ∃ q, wd / d = q := ⟨_, rfl⟩
    obtain ⟨r', hre⟩ : ∃ r', wd % d = r' := ⟨_, rfl⟩
    simp only [hqe] at hquo hq Hst
    simp only [hre] at hrem Hst
    have hw32 : IntKind.u32.wrap (q : Int) = (q : Int) := wrap32_of hq
    have hw64 : IntKind.u64.wrap (q : Int) = (q : Int) := wrap64_of (by omega)
    have hr64 : IntKind.u64.wrap (r' : Int) = (r' : Int) := wrap64_of (by have := Hst.out.2.2.1; omega)
    have Hr := hide hr
    have HR := hide hR
    have hls : zs.length - 1 - k < zs.length := by omega
    clear hwd hwd2 hqe hre hwl hinv hR hrow hR0 hB0 b0 b1 b2 b3
    gi_wp2
    refine round_still 1 l 7 (by kernel_rfl) (by decide +kernel) (no_defer (by simp)) (by rintro ⟨_, _, h⟩; exact h) ?_
    simp only [List.take_succ_cons, List.take_zero, List.drop_succ_cons, List.drop_zero]
    repeat still_step
    refine wpStill_nil ?_
    go_wp2
    gi_wp2
    have hset := HR.out.set (zs.length - 1 - k) q
    rw [set_take zs (qs ++ rest) k q hk] at hset
    have hset2 := hset.other (a := ⟨w.heap.size + 1 + 1, 0, none⟩) (show g ≠ w.heap.size + 1 + 1 from by omega) (.int .u64 (r' : Int))
    have hB2 := (hB.setCell (p := ⟨g, zs.length - 1 - k, none⟩) rfl (.int .u32 (q : Int))).setNew (p := ⟨w.heap.size + 1 + 1, 0, none⟩) (show w.heap.size ≤ w.heap.size + 1 + 1 from by omega) (.int .u64 (r' : Int))
    have hc0 := boxed_but (boxed_but hb0 ((But.refl g W).setCell (p := ⟨g, zs.length - 1 - k, none⟩) rfl (.int .u32 (q : Int))) (by omega)) ((But.refl (w.heap.size + 1 + 1) _).setCell (p := ⟨w.heap.size + 1 + 1, 0, none⟩) rfl (.int .u64 (r' : Int))) (by omega)
    have hc1 := boxed_but (boxed_but hb1 ((But.refl g W).setCell (p := ⟨g, zs.length - 1 - k, none⟩) rfl (.int .u32 (q : Int))) (by omega)) ((But.refl (w.heap.size + 1 + 1) _).setCell (p := ⟨w.heap.size + 1 + 1, 0, none⟩) rfl (.int .u64 (r' : Int))) (by omega)
    have hc2 := (boxed_but hb2 ((But.refl g W).setCell (p := ⟨g, zs.length - 1 - k, none⟩) rfl (.int .u32 (q : Int))) (by omega)).set (.int .u64 (r' : Int))
    have hc3 := boxed_but (boxed_but hb3 ((But.refl g W).setCell (p := ⟨g, zs.length - 1 - k, none⟩) rfl (.int .u32 (q : Int))) (by omega)) ((But.refl (w.heap.size + 1 + 1) _).setCell (p := ⟨w.heap.size + 1 + 1, 0, none⟩) rfl (.int .u64 (r' : Int))) (by omega)
    exact ⟨(((KeepsOthers.setCell _ _ _).trans (KeepsOthers.setCell _ _ _)).trans (KeepsOthers.drew _)).from _, ⟨(q :: qs, r'), ⟨hc0, hc1, hc2, hc3, hk, Hst.out⟩, hset2, hB2.drew⟩⟩
  case done =>
    rintro D W hD ⟨⟨qs, r⟩, hall⟩ hK
    dsimp only at hall
    obtain ⟨⟨hb0, hb1, hb2, hb3, hk', hinv⟩, hR, hB⟩ := hall
    have c2 := hb2.cell
    have hrd := hinv.2.2.1
    have hrl : r < 4294967296 := by omega
    have hv := hinv.2.2.2
    rw [Nat.sub_self, List.drop_zero] at hv
    have Hv := hide hv
    rw [Nat.sub_self, List.take_zero, List.nil_append] at hR
    clear hv
    go_wp2
    refine ⟨by simp, .inl ⟨_, _, rfl, run_takeDeferred hK, ?_⟩⟩
    have hz := Hz.out
    refine ⟨.int .u32 (r : Int), ?_, qs, ?_, hinv.1, hinv.2.1, ?_, hR.putObj hK rfl _, hB.putObj (by omega) _⟩
    · exact results_tmp (fn := Tryd.f79) rfl _ _ _
    · rw [Hv.out, Nat.mul_comm, Nat.mul_add_mod, Nat.mod_eq_of_lt hrd]
    · rw [Hv.out, Nat.mul_comm, Nat.mul_add_div hd, Nat.div_eq_of_lt hrd, Nat.add_zero]
  case stop =>
    rintro D c k W _ _ h _
    exact h.elim

end Go.Proofs.YtkdhcpfmlelfcaaDoor
