/- What rounds of a difference make. The contract of Of: a small number's list. The contracts of takeAway and putBack: so many times a divisor taken from a piece of a block, and the divisor added once. -/
import Derived.Test.YtkdhcpfmlelfcaaDoorCmp
import Derived.Test.YtkdhcpfmlelfcaaDoorBRows
import Derived.Test.YtkdhcpfmlelfcaaDoorMul

/- What rounds of a difference make. -/
namespace Go.Proofs.YtkdhcpfmlelfcaaDoor
set_option linter.unusedVariables false
set_option linter.unusedSimpArgs false
open Go Go.RowKit Go.Shelf

/-- What k rounds of a difference have made. -/
def SubInv (xs ys : List Nat) (k : Nat) (ss : List Nat) (c : Nat) : Prop :=
  ss.length = k ∧ Small R ss ∧ c ≤ 1 ∧ val R (xs.take k) + R ^ k * c = val R ss + val R (ys.take k)

theorem SubInv.zero (xs ys : List Nat) : SubInv xs ys 0 [] 0 := ⟨rfl, Small.nil _, by omega, by simp [val]⟩

theorem bor_step {x y c : Nat} (hx : x < 4294967296) (hy : y < 4294967296) (hc : c ≤ 1) : x + 4294967296 * bor x y c = (x + 4294967296 + 4294967296 - y - c) % 4294967296 + y + c := by
  unfold bor
  split <;> omega

theorem SubInv.step {xs ys ss : List Nat} {k c : Nat} (h : SubInv xs ys k ss c) (hx : Small R xs) (hy : Small R ys) :
    SubInv xs ys (k + 1) (ss ++ [(nth xs k + 4294967296 + 4294967296 - nth ys k - c) % 4294967296]) (bor (nth xs k) (nth ys k) c) := by
  obtain ⟨h1, h2, h3, h4⟩ := h
  have a := hx.nth R_pos k
  have b := hy.nth R_pos k
  rw [R_eq] at a b
  refine ⟨by simp [h1], small_snoc h2 (by rw [R_eq]; omega), bor_le _ _ _, ?_⟩
  have hs := bor_step a b h3
  rw [val_snoc, h1, val_take_nth, val_take_nth, Nat.pow_succ]
  generalize (nth xs k + 4294967296 + 4294967296 - nth ys k - c) % 4294967296 = s at *
  generalize bor (nth xs k) (nth ys k) c = d at *
  have e1 : R ^ k * nth xs k + R ^ k * R * d = R ^ k * s + R ^ k * nth ys k + R ^ k * c := by
    rw [Nat.mul_assoc, ← Nat.mul_add, ← Nat.mul_add, ← Nat.mul_add, R_eq, hs]
  omega

theorem SubInv.done {xs ys ss : List Nat} {c : Nat} (h : SubInv xs ys xs.length ss c) (hx : Small R xs) (hle : val R ys ≤ val R xs) : val R ss = val R xs - val R ys := by
  obtain ⟨h1, h2, h3, h4⟩ := h
  have hlx := val_lt hx
  have hls := val_lt h2
  rw [h1] at hls
  rw [List.take_length] at h4
  have hy : val R ys = val R (ys.take xs.length) := by
    rcases Nat.lt_or_ge xs.length ys.length with hl | hl
    · have := val_split R ys xs.length (by omega)
      rcases Nat.eq_zero_or_pos (val R (ys.drop xs.length)) with h0 | h0
      · rw [h0] at this; simpa using this
      · have := Nat.mul_le_mul_left (R ^ xs.length) h0
        omega
    · rw [List.take_of_length_le hl]
  rw [← hy] at h4
  rcases Nat.eq_zero_or_pos c with hc | hc
  · subst hc; omega
  · have := Nat.mul_le_mul_left (R ^ xs.length) hc
    omega

end Go.Proofs.YtkdhcpfmlelfcaaDoor

/- The contract of Of: a small number's list. -/
namespace Go.Proofs.YtkdhcpfmlelfcaaDoor
set_option linter.unusedVariables false
set_option linter.unusedSimpArgs false
open Go Go.RowKit Go.Shelf

set_option maxHeartbeats 2000000 in
theorem of_calls (w : World) (n : Nat) (hn : n < 18446744073709551616) :
    Calls Tryd.prog 28 #[.int .u64 (n : Int)] w fun e w' => ∃ rv, e = .returned rv ∧ Answer w w' rv n ∧ Below w.heap.size w w' := by
  go_enter Tryd.func28, Tryd.ntmps28
  go_wp2_with fail
  have hrow : Row (w.alloc (.cells #[.int .u32 ((n : Int) % 4294967296), .int .u32 ((n : Int) / 4294967296)] 53)) w.heap.size [n % 4294967296, n / 4294967296] := World.alloc_heap_new w _
  have hsm : Small R [n % 4294967296, n / 4294967296] := fun x hx => by
    rw [R_eq]
    simp only [List.mem_cons, List.not_mem_nil, or_false] at hx
    omega
  have hval : val R [n % 4294967296, n / 4294967296] = n := by
    rw [val_cons, val_cons, val_nil, R_eq]; omega
  refine (trim_made w _ _ _ 2 _ hrow hsm rfl (Nat.le_refl _) (by omega) hval).mono ?_
  rintro e w5 ⟨bo, m, dap, rfl, hA, hb5⟩
  clear hval hsm hrow
  go_wp2
  go_ret
  exact ⟨_, rfl, hA, ((Below.refl _ w).alloc (Nat.le_refl _) _).trans (hb5.mono (by simp))⟩

end Go.Proofs.YtkdhcpfmlelfcaaDoor

/- The contracts of takeAway and putBack: so many times a divisor taken from a piece of a block, and the divisor added once. -/
namespace Go.Proofs.YtkdhcpfmlelfcaaDoor
set_option linter.unusedVariables false
set_option linter.unusedSimpArgs false
open Go Go.RowKit Go.Shelf

/-- What k rounds of takeAway have made. -/
def TakeInv (ps ds : List Nat) (t k : Nat) (ns : List Nat) (c b : Nat) : Prop :=
  ns.length = k ∧ Small R ns ∧ c < R ∧ b ≤ 1 ∧ val R (ps.take k) + R ^ k * (b + c) = val R ns + t * val R (ds.take k)

theorem TakeInv.zero (ps ds : List Nat) (t : Nat) : TakeInv ps ds t 0 [] 0 0 := ⟨rfl, Small.nil _, R_pos, by omega, by simp [val]⟩

theorem take_num {P x n R' t d c b bb lo hi S T V : Nat} (h : V + P * (b + c) = S + T) (h1 : x + R' * bb = n + lo + b) (h2 : d * t + c = lo + R' * hi) : V + P * x + P * R' * (bb + hi) = S + P * n + (T + P * (d * t)) := by
  have e1 : P * x + P * R' * (bb + hi) = P * (n + lo + b) + P * (R' * hi) := by rw [← h1, Nat.mul_assoc, Nat.mul_add R', Nat.mul_add P, Nat.mul_add P]; omega
  have e2 : P * (n + lo + b) + P * (R' * hi) = P * n + P * b + P * (d * t + c) := by rw [h2, Nat.mul_add, Nat.mul_add, Nat.mul_add]; omega
  rw [Nat.mul_add P (d * t) c] at e2
  rw [Nat.mul_add] at h
  omega

theorem wide2_lt {d t c : Nat} (hd : d < R) (ht : t < R) (hc : c < R) : d * t + c < 18446744073709551616 := by
  have := mul_wide hd ht (p := 0) R_pos hc
  omega

theorem hi2_lt {d t c : Nat} (hd : d < R) (ht : t < R) (hc : c < R) : (d * t + c) / 4294967296 < R := by
  have := wide2_lt hd ht hc
  rw [R_eq]
  omega

theorem TakeInv.step {ps ds ns : List Nat} {t k c b : Nat} (h : TakeInv ps ds t k ns c b) (hp : Small R ps) (hd : Small R ds) (ht : t < R) :
    TakeInv ps ds t (k + 1) (ns ++ [(nth ps k + 4294967296 + 4294967296 - (nth ds k * t + c) % 4294967296 - b) % 4294967296]) ((nth ds k * t + c) / 4294967296) (bor (nth ps k) ((nth ds k * t + c) % 4294967296) b) := by
  obtain ⟨h1, h2, h3, h4, h5⟩ := h
  have a := hp.nth R_pos k
  have hi := hi2_lt (hd.nth R_pos k) ht h3
  refine ⟨by simp [h1], small_snoc h2 (by rw [R_eq]; omega), hi, bor_le _ _ _, ?_⟩
  rw [R_eq] at a
  have hs := bor_step a (show (nth ds k * t + c) % 4294967296 < 4294967296 from by omega) h4
  have hw : nth ds k * t + c = (nth ds k * t + c) % 4294967296 + 4294967296 * ((nth ds k * t + c) / 4294967296) := (Nat.mod_add_div _ _).symm
  rw [val_snoc, h1, val_take_nth, val_take_nth, Nat.pow_succ, Nat.mul_add t, Nat.mul_left_comm t (R ^ k), Nat.mul_comm t (nth ds k)]
  rw [show R ^ k * R = R ^ k * 4294967296 from by rw [R_eq]]
  exact take_num h5 hs hw

theorem nth_mid (pre xs post : List Nat) {i : Nat} (h : i < xs.length) : nth (pre ++ (xs ++ post)) (pre.length + i) = nth xs i := by
  unfold nth
  rw [List.getElem?_append_right (by omega), Nat.add_sub_cancel_left, List.getElem?_append_left h]

theorem nth_at (pre ns ps post : List Nat) {k : Nat} (hn : ns.length = k) (h : k < ps.length) : nth (pre ++ ((ns ++ ps.drop k) ++ post)) (pre.length + k) = nth ps k := by
  rw [nth_mid pre (ns ++ ps.drop k) post (by simp; omega)]
  unfold nth
  rw [List.getElem?_append_right (by omega), hn, Nat.sub_self, List.getElem?_drop, Nat.add_zero]

theorem set_at (pre ns ps post : List Nat) {k : Nat} (v : Nat) (hn : ns.length = k) (h : k < ps.length) : (pre ++ ((ns ++ ps.drop k) ++ post)).set (pre.length + k) v = pre ++ (((ns ++ [v]) ++ ps.drop (k + 1)) ++ post) := by
  rw [List.set_append_right _ _ (by omega), Nat.add_sub_cancel_left, List.set_append_left _ _ (by simp; omega), List.set_append_right _ _ (by omega), hn, Nat.sub_self, List.drop_eq_getElem_cons h, List.set_cons_zero]
  simp

theorem Row.at {W : World} {g off : Nat} {pre ns ps post : List Nat} {k : Nat} (h : Row W g (pre ++ ((ns ++ ps.drop k) ++ post))) (hp : pre.length = off) (hn : ns.length = k) (hk : k < ps.length) : W.cell? ⟨g, off + k, none⟩ = some (.int .u32 ((nth ps k : Nat) : Int)) := by
  subst hp
  rw [h.cell (by simp; omega), nth_at pre ns ps post hn hk]

theorem Row.setAt {W : World} {g off : Nat} {pre ns ps post : List Nat} {k : Nat} (h : Row W g (pre ++ ((ns ++ ps.drop k) ++ post))) (hp : pre.length = off) (hn : ns.length = k) (hk : k < ps.length) (v : Nat) : Row (W.setCell ⟨g, off + k, none⟩ (.int .u32 (v : Int))) g (pre ++ (((ns ++ [v]) ++ ps.drop (k + 1)) ++ post)) := by
  subst hp
  have := h.set (pre.length + k) v
  rwa [set_at pre ns ps post v hn hk] at this

/-- What k rounds of putBack have made. -/
def PutInv (ps ds : List Nat) (k : Nat) (ns : List Nat) (c : Nat) : Prop :=
  ns.length = k ∧ Small R ns ∧ c ≤ 1 ∧ val R ns + R ^ k * c = val R (ps.take k) + val R (ds.take k)

theorem PutInv.step {ps ds ns : List Nat} {k c : Nat} (h : PutInv ps ds k ns c) (hp : Small R ps) (hd : Small R ds) : PutInv ps ds (k + 1) (ns ++ [(nth ps k + nth ds k + c) % 4294967296]) ((nth ps k + nth ds k + c) / 4294967296) := by
  obtain ⟨h1, h2, h3, h4⟩ := h
  have a := hp.nth R_pos k
  have b := hd.nth R_pos k
  rw [R_eq] at a b
  refine ⟨by simp [h1], small_snoc h2 (by rw [R_eq]; omega), by omega, ?_⟩
  rw [val_snoc, h1, Nat.pow_succ, val_take_nth, val_take_nth]
  exact carry_step h4

end Go.Proofs.YtkdhcpfmlelfcaaDoor
