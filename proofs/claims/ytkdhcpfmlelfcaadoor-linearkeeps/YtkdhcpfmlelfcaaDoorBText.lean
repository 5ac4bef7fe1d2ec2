/- Appending a string to bytes of one's own: as an operation of a plain list and of a round. The first half of Text's contract: the groups of nine digits. The text of a number, group by group: lengths, and a group more. A few small reckonings about fixed numbers, that the law's own function counted comes to. What lies in memory while Text joins its groups; a piece of text more. -/
import Derived.Test.YtkdhcpfmlelfcaaDoorBRows
import Derived.Lib.AppendStr
import Derived.Laws.IdiomStrings
import Derived.Test.YtkdhcpfmlelfcaaDoorDivby
import Derived.Test.YtkdhcpfmlelfcaaDoorWords
import Derived.Test.YtkdhcpfmlelfcaaDoorSmall2
import Derived.Test.YtkdhcpfmlelfcaaDoorFmt
import Derived.Deep.AppendLies
import Derived.Deep.RegionLaw
import Derived.Laws.OwnMore
import Derived.Lib.ItoaNum
import Derived.RangeFuncWrites
import Derived.Lib.OwnKind

/- Appending a string to bytes of one's own: as an operation of a plain list and of a round. -/
namespace Go.Proofs.YtkdhcpfmlelfcaaDoor
set_option linter.unusedVariables false
set_option linter.unusedSimpArgs false
open Go Go.RowKit Go.Shelf Go.Lib

theorem infoU8 : (Tryd.prog.info? 5).map (fun i => (i.zero, i.size, i.bytes)) = some (some (.int .u8 0), 1, 1) := by kernel_rfl

theorem run_apps (w : World) (ty : TypeId) (base : Nat) (v : Value) (n : Nat) (xs : List Value) (hown : w.ownsRow base 5 1 v n xs) (s : ByteArray) (hn : n + s.size ≤ 140737488355328) (hbase : base ≤ w.heap.size) :
    ∃ v' w', (Builtin.append_ #[58, 9] ty #[v, .string s]).run Tryd.prog w = .ok v' w' ∧ w'.ownsRow base 5 1 v' (n + s.size) (xs ++ strCells s) ∧ w.grownBy w' v.ownBlock := by
  obtain ⟨i0, hi, hz0, hz1, hz2⟩ := info_parts infoU8
  obtain ⟨v', w', h1, h2, h3, _⟩ := run_append_own_string (P := Tryd.prog) w base 58 9 ty 5 i0 Tryd.underlying58 Tryd.underlying9 hi hz0 hz1 hz2 v n xs hown s (by unfold maxLen; omega) hn hbase
  exact ⟨v', w', h1, h2, h3⟩

theorem wpList_apps {ops : Array Oper} {rest : List Oper} {o : Oper} {a : Act} {w : World} {Q : Exit → Act → World → Prop} (hg : o.guard = none) (x y : Operand) (hop : o.op = .call { callee := .builtin .append, args := #[x, y], argTypes := #[58, 9] })
    (base : Nat) (v : Value) (n : Nat) (xs : List Value) (hx : a.eval x = v) (hown : w.ownsRow base 5 1 v n xs) (s : ByteArray) (hy : a.eval y = .string s) (hn : n + s.size ≤ 140737488355328) (hbase : base ≤ w.heap.size)
    (h : ∀ v' w', w'.ownsRow base 5 1 v' (n + s.size) (xs ++ strCells s) → w.grownBy w' v.ownBlock → wpList Tryd.prog ops Q rest (a.put o.dst v') w') : wpList Tryd.prog ops Q (o :: rest) a w := by
  refine wpList_plain hg fun K hK => ?_
  obtain ⟨v', w', hrun, h2, h3⟩ := run_apps w o.type base v n xs hown s hn hbase
  unfold Oper.wp
  simp [execOp, hop, resolve, invoke, builtin, hx, hy, hrun, Result.andThen]
  exact hK _ _ (h v' w' h2 h3)

theorem wpListIn_apps {F : Fence} {m : Nat} {ops : Array Oper} {rest : List Oper} {o : Oper} {a : Act} {w : World} {Q : Exit → Act → World → Prop} (hg : o.guard = none) (x y : Operand) (hop : o.op = .call { callee := .builtin .append, args := #[x, y], argTypes := #[58, 9] })
    (base : Nat) (v : Value) (n : Nat) (xs : List Value) (hx : a.eval x = v) (hown : w.ownsRow base 5 1 v n xs) (s : ByteArray) (hy : a.eval y = .string s) (hn : n + s.size ≤ 140737488355328) (hbase : base ≤ w.heap.size)
    (h : ∀ v' w', w'.ownsRow base 5 1 v' (n + s.size) (xs ++ strCells s) → w.grownBy w' v.ownBlock → wpListIn F m Tryd.prog ops Q rest (a.put o.dst v') w') : wpListIn F m Tryd.prog ops Q (o :: rest) a w := by
  refine wpListIn_plain hg fun K hK => ?_
  obtain ⟨v', w', hrun, h2, h3⟩ := run_apps w o.type base v n xs hown s hn hbase
  unfold Oper.wpIn
  refine ⟨?_, ?_⟩
  · simp [Oper.about, hop, hx, hy, resolve, Target.leads]
  · rw [Oper.semAt_plain F _ _ (by rw [hop]; intro c hc'; cases hc')]
    simp [execOp, hop, resolve, invoke, builtin, hx, hy, hrun, Result.andThen]
    exact hK _ _ (h v' w' h2 h3)

theorem own_owns (base C : Nat) (e : TypeId) (size : Nat) (f : Nat → Value) (n : Nat → Nat) (xs : Nat → List Value) : OwnFrom C (fun k W => W.ownsRow base e size (f k) (n k) (xs k)) := fun s X Y row hs hg hr => by
  refine ⟨hs.1, ?_⟩
  rcases hs.2 with hn | ⟨g, cap, cur, hv, h1, h2, h3⟩
  · exact .inl hn
  · refine .inr ⟨g, cap, cur, hv, h1, (hg.block g (Array.getElem?_eq_some_iff.1 h2).1 (fun e => ?_)).trans h2, h3⟩
    obtain ⟨_, o, ho, hc⟩ := hr g e.symm
    rw [h2] at ho
    cases ho
    cases hc

end Go.Proofs.YtkdhcpfmlelfcaaDoor

/- The first half of Text's contract: the groups of nine digits. -/
namespace Go.Proofs.YtkdhcpfmlelfcaaDoor
set_option linter.unusedVariables false
set_option linter.unusedSimpArgs false
open Go Go.RowKit Go.Shelf

/-- The groups of nine digits of a number, the lowest first, at most so many. -/
def piecesUpto : Nat → Nat → List Nat
  | 0, _ => []
  | k + 1, n => if n = 0 then [] else n % 1000000000 :: piecesUpto k (n / 1000000000)

/-- The groups of nine digits of a number, the lowest first. -/
def pieces (n : Nat) : List Nat := piecesUpto n n

theorem piecesUpto_enough : ∀ (j k n : Nat), n ≤ j → n ≤ k → piecesUpto j n = piecesUpto k n := by
  intro j
  induction j with
  | zero =>
    intro k n h1 _
    have hn : n = 0 := by omega
    subst hn
    cases k <;> rfl
  | succ j ih =>
    intro k n h1 h2
    by_cases hn : n = 0
    · subst hn
      cases k <;> rfl
    · obtain ⟨k', rfl⟩ : ∃ k', k = k' + 1 := ⟨k - 1, by omega⟩
      show (if n = 0 then [] else _) = (if n = 0 then [] else _)
      rw [if_neg hn, if_neg hn, ih k' (n / 1000000000) (by omega) (by omega)]

theorem pieces_zero : pieces 0 = [] := rfl

theorem pieces_pos {n : Nat} (h : n ≠ 0) : pieces n = n % 1000000000 :: pieces (n / 1000000000) := by
  obtain ⟨k, rfl⟩ : ∃ k, n = k + 1 := ⟨n - 1, by omega⟩
  have e : pieces (k + 1) = if k + 1 = 0 then [] else (k + 1) % 1000000000 :: piecesUpto k ((k + 1) / 1000000000) := rfl
  rw [e, if_neg h]
  unfold pieces
  rw [piecesUpto_enough k ((k + 1) / 1000000000) _ (by omega) (Nat.le_refl _)]

theorem pieces_len : ∀ (k n : Nat), n < 2 ^ k → (pieces n).length ≤ k := by
  intro k
  induction k with
  | zero => intro n h; rw [show n = 0 by omega, pieces_zero]; simp
  | succ k ih =>
    intro n h
    by_cases hn : n = 0
    · rw [hn, pieces_zero]; simp
    · rw [pieces_pos hn, List.length_cons]
      have : n / 1000000000 < 2 ^ k := by rw [Nat.pow_succ] at h; omega
      have := ih _ this
      omega

theorem pieces_small (n : Nat) : ∀ x ∈ pieces n, x < 1000000000 := by
  induction n using Nat.strongRecOn with
  | _ n ih =>
    by_cases hn : n = 0
    · rw [hn, pieces_zero]; simp
    · rw [pieces_pos hn]
      intro x hx
      rcases List.mem_cons.1 hx with rfl | hx
      · exact Nat.mod_lt _ (by decide)
      · exact ih _ (Nat.div_lt_self (by omega) (by decide)) x hx

/-- A call of a Go function in a region that draws its order. -/
theorem step_enter {P : Program} {ops : Array Oper} {o : Oper} {a : Act} {w : World} {K : Act → World → Prop} {Q : Exit → Act → World → Prop} {E : Prop} (hg : o.guard = none) (f : FuncId) (args : Array Value)
    (hrun : (execOp a.eval o).run P w = .ok (.enter f args) w)
    (h : Calls P f args w fun
      | .returned v, w'' => K (a.put o.dst v) w''
      | .panicked chain, w'' => Q (.panic chain) a w''
      | .outgrown, _ => LetsOut Q) :
    if Region.wanted o (yielded ops a.tmps) = true then Oper.wp P o a w K Q else E := by
  have hw : Region.wanted o (yielded ops a.tmps) = true := by simp [Region.wanted, hg]
  rw [if_pos hw]
  unfold Oper.wp
  rw [hrun, Oper.upon_enter]
  exact h

theorem Limbs.same {W : World} {v : Value} {xs ys : List Nat} (h : Limbs W v xs) (k : Limbs W v ys) : xs = ys := by
  obtain ⟨ao, cap, e1, _, _, _, hc⟩ := h
  obtain ⟨bo, dap, e2, _, _, _, kc⟩ := k
  have e := e1.symm.trans e2
  injection e with ea el ec
  refine same_of_nth el fun i hi => ?_
  obtain ⟨b, off, h1, h2⟩ := hc i hi
  obtain ⟨b', off', k1, k2⟩ := kc i (by omega)
  rw [← ea, h1] at k1
  cases k1
  rw [h2] at k2
  injection k2 with k2
  injection k2 with _ k2
  exact Int.ofNat.inj k2

/-- What the limbs behind a value are worth. -/
def worth (v : Value) (W : World) : Nat :=
  match v with
  | .slice (some a) n _ => val R ((List.range n).map fun j => match W.cell? ⟨a.block, a.off + j, none⟩ with | some (.int _ z) => z.toNat | _ => 0)
  | _ => 0

theorem worth_eq {W : World} {v : Value} {zs : List Nat} (h : Limbs W v zs) : worth v W = val R zs := by
  obtain ⟨ao, cap, rfl, _, _, _, hc⟩ := h
  cases ao with
  | none =>
    cases zs with
    | nil => rfl
    | cons x r =>
      obtain ⟨b, off, e, _⟩ := hc 0 (by simp)
      cases e
  | some a =>
    show val R _ = _
    congr 1
    apply List.ext_getElem (by simp)
    intro j h1 h2
    obtain ⟨b, off, e, hcell⟩ := hc j h2
    cases e
    simp only [List.getElem_map, List.getElem_range, hcell]
    rw [nth_eq h2]
    rfl

theorem ownsRow_but {W W' : World} {g base : Nat} {e : TypeId} {size : Nat} {v : Value} {n : Nat} {xs : List Value} (h : W.ownsRow base e size v n xs) (hb : But g W W') (hg : g < base) : W'.ownsRow base e size v n xs := by
  refine ⟨h.1, ?_⟩
  rcases h.2 with hn | ⟨g2, cap, cur, hv, h1, h2, h3⟩
  · exact .inl hn
  · exact .inr ⟨g2, cap, cur, hv, h1, (hb.block g2 (Array.getElem?_eq_some_iff.1 h2).1 (by omega)).trans h2, h3⟩

/-- The front of a block, or nil. -/
def restOf (g cap : Nat) (us : List Nat) : Value := if us.length = 0 then .slice none 0 0 else .slice (some ⟨g, 0, none⟩) us.length cap

def u32s (gs : List Nat) : List Value := gs.map (fun z : Nat => Value.int .u32 (z : Int))

theorem divideBy_at9 (w : World) (g cap : Nat) (zs rest : List Nat) (hrow : Row w g (zs ++ rest)) (hs : Small R zs) (hc : zs.length ≤ cap) (hcap : cap ≤ 70368744177664) (hb : zs.length ≤ 1048577) :
    Calls Tryd.prog 79 #[.slice (some ⟨g, 0, none⟩) zs.length cap, .int .u32 1000000000] w fun e w' => ∃ (qs : List Nat) (r : Nat), e = .returned (.int .u32 (r : Int)) ∧ Hid (r = val R zs % 1000000000) ∧ r < 1000000000 ∧ Hid (qs.length = zs.length) ∧ Small R qs ∧ Hid (val R qs = val R zs / 1000000000) ∧ Row w' g (qs ++ rest) ∧ But g w w' := by
  refine (divideBy_calls w g cap 1000000000 zs rest hrow hs hc hcap hb (by decide) (by decide)).mono ?_
  rintro e w' ⟨qs, h1, h2, h3, h4, h5, h6⟩
  exact ⟨qs, _, h1, rfl, Nat.mod_lt _ (by decide), h2, h3, h4, h5, h6⟩

end Go.Proofs.YtkdhcpfmlelfcaaDoor

/- The text of a number, group by group: lengths, and a group more. -/
namespace Go.Proofs.YtkdhcpfmlelfcaaDoor
set_option linter.unusedVariables false
set_option linter.unusedSimpArgs false
open Go Go.RowKit Go.Shelf Go.Lib

/-- The text of groups of nine digits, the lowest first. -/
def joined : List Nat → List UInt8
  | [] => []
  | [g] => decDigits g
  | g :: r => joined r ++ (List.replicate (9 - (decDigits g).length) 48 ++ decDigits g)

/-- A number's text. -/
def textOf (n : Nat) : List UInt8 := if n = 0 then [48] else joined (pieces n)

/-- Bytes as they lie in memory. -/
def cellsOf (l : List UInt8) : List Value := strCells ⟨l.toArray⟩

theorem nDigits_le : ∀ (k u : Nat), u < 10 ^ (k + 1) → nDigits u ≤ k + 1 := by
  intro k
  induction k with
  | zero => intro u h; rw [nDigits_small (by simpa using h)]; omega
  | succ k ih =>
    intro u h
    by_cases hu : u < 10
    · rw [nDigits_small hu]; omega
    · rw [nDigits_big hu]
      have := ih (u / 10) (by rw [Nat.pow_succ] at h; omega)
      omega

theorem digits_le9 {g : Nat} (h : g < 1000000000) : (decDigits g).length ≤ 9 := by
  rw [decDigits_length]; exact nDigits_le 8 g h

theorem joined_len : ∀ {l : List Nat}, (∀ x ∈ l, x < 1000000000) → (joined l).length ≤ 9 * l.length := by
  intro l
  induction l with
  | nil => intro _; simp [joined]
  | cons g r ih =>
    intro h
    have hg := digits_le9 (h g (by simp))
    have hr := ih (fun x hx => h x (by simp [hx]))
    cases r with
    | nil => simp only [joined, List.length_cons, List.length_nil]; omega
    | cons a t =>
      simp only [joined, List.length_append, List.length_replicate, List.length_cons] at hr ⊢
      omega

theorem joined_more {gs : List Nat} {k : Nat} (hk : k < gs.length) (h0 : k ≠ 0) : joined (gs.drop (gs.length - (k + 1))) = joined (gs.drop (gs.length - k)) ++ (List.replicate (9 - (decDigits (nth gs (gs.length - 1 - k))).length) 48 ++ decDigits (nth gs (gs.length - 1 - k))) := by
  have e : gs.drop (gs.length - (k + 1)) = nth gs (gs.length - 1 - k) :: gs.drop (gs.length - k) := by
    rw [nth_eq (by omega), show gs.length - (k + 1) = gs.length - 1 - k by omega, List.drop_eq_getElem_cons (by omega)]
    congr 2
    omega
  rw [e]
  cases hd : gs.drop (gs.length - k) with
  | nil => have := congrArg List.length hd; simp at this; omega
  | cons a t => rfl

theorem joined_first {gs : List Nat} (hk : 0 < gs.length) : joined (gs.drop (gs.length - (0 + 1))) = decDigits (nth gs (gs.length - 1 - 0)) := by
  have e : gs.drop (gs.length - (0 + 1)) = [nth gs (gs.length - 1 - 0)] := by
    rw [show gs.length - (0 + 1) = gs.length - 1 by omega, show gs.length - 1 - 0 = gs.length - 1 by omega, List.drop_eq_getElem_cons (by omega), List.drop_of_length_le (by omega), nth_eq (by omega)]
  rw [e]
  rfl

theorem cellsOf_append (a b : List UInt8) : cellsOf (a ++ b) = cellsOf a ++ cellsOf b := by simp [cellsOf, strCells]

theorem noughts_cut : ∀ d : Fin 10, ((⟨#[48, 48, 48, 48, 48, 48, 48, 48, 48]⟩ : ByteArray).extract d.val 9).data.toList = List.replicate (9 - d.val) 48 := by decide +kernel

theorem noughts_cells {d : Nat} (h : d ≤ 9) : strCells ((⟨#[48, 48, 48, 48, 48, 48, 48, 48, 48]⟩ : ByteArray).extract d 9) = cellsOf (List.replicate (9 - d) 48) := by
  have := noughts_cut ⟨d, by omega⟩
  unfold cellsOf strCells
  rw [this]

theorem noughts_size {d : Nat} (h : d ≤ 9) : ((⟨#[48, 48, 48, 48, 48, 48, 48, 48, 48]⟩ : ByteArray).extract d 9).size = 9 - d := by
  have := congrArg List.length (noughts_cells h)
  rw [strCells_length, cellsOf, strCells_length] at this
  rw [this]
  simp [ByteArray.size]

end Go.Proofs.YtkdhcpfmlelfcaaDoor

/- A few small reckonings about fixed numbers, that the law's own function counted comes to. -/
namespace Go.Proofs.YtkdhcpfmlelfcaaDoor
set_option linter.unusedVariables false
set_option linter.unusedSimpArgs false
open Go Go.RowKit Go.Shelf Go.Lib

theorem digits_low : decDigits 294967296 = [50, 57, 52, 57, 54, 55, 50, 57, 54] := by
  simp [decDigits]

theorem textOf_32 : textOf 4294967296 = [52, 50, 57, 52, 57, 54, 55, 50, 57, 54] := by
  unfold textOf
  rw [if_neg (by decide), pieces_pos (by decide), show 4294967296 / 1000000000 = 4 from rfl, pieces_pos (by decide), show 4 / 1000000000 = 0 from rfl, pieces_zero,
    show 4294967296 % 1000000000 = 294967296 from rfl, show 4 % 1000000000 = 4 from rfl]
  show decDigits 4 ++ (List.replicate (9 - (decDigits 294967296).length) 48 ++ decDigits 294967296) = _
  rw [digits_low, decDigits_one (by decide)]
  rfl

theorem v_quo : val R [0, 0, 1] / val R [1, 1] = val R [4294967295] := by decide +kernel
theorem v_rem : val R [0, 0, 1] % val R [1, 1] = val R [1] := by decide +kernel
theorem v_mul : val R [0, 1] * val R [0, 1] = val R [0, 0, 1] := by decide +kernel
theorem v_one : val R [0, 1] = 4294967296 := by decide +kernel
theorem v_div : val R [1, 1] ≠ 0 := by decide +kernel

theorem small_of (zs : List Nat) (h : zs.all (fun x => decide (x < 4294967296)) = true) : Small R zs := fun x hx => by
  have := List.all_eq_true.1 h x hx
  rw [R_eq]
  simpa using this

theorem c_quo : Canon R [4294967295] := ⟨small_of _ (by decide +kernel), by decide +kernel⟩
theorem c_one : Canon R [1] := ⟨small_of _ (by decide +kernel), by decide +kernel⟩
theorem c_001 : Canon R [0, 0, 1] := ⟨small_of _ (by decide +kernel), by decide +kernel⟩
theorem c_01 : Canon R [0, 1] := ⟨small_of _ (by decide +kernel), by decide +kernel⟩
theorem c_11 : Canon R [1, 1] := ⟨small_of _ (by decide +kernel), by decide +kernel⟩

end Go.Proofs.YtkdhcpfmlelfcaaDoor

/- What lies in memory while Text joins its groups; a piece of text more. -/
namespace Go.Proofs.YtkdhcpfmlelfcaaDoor
set_option linter.unusedVariables false
set_option linter.unusedSimpArgs false
open Go Go.RowKit Go.Shelf Go.Lib

/-- The boxes of the groups, the text and the iterator; the groups; the text so far. -/
def Holding (w : World) (q r gb gc : Nat) (gs : List Nat) (W : World) (tv : Value) (T : List UInt8) : Prop :=
  (Boxed W q 22 (.slice (some ⟨gb, 0, none⟩) gs.length gc) ∧ Boxed W r 58 tv ∧ Boxed W (r + 1) 22 (.slice (some ⟨gb, 0, none⟩) gs.length gc)) ∧
  (W.ownsRow (q + 1) 53 1 (.slice (some ⟨gb, 0, none⟩) gs.length gc) gs.length (u32s gs) ∧ W.ownsRow (r + 1 + 1) 5 1 tv T.length (cellsOf T)) ∧ Below w.heap.size w W

theorem ownsRow_at {W W' : World} {base gb gc : Nat} {e : TypeId} {size n : Nat} {xs : List Value} (h : W.ownsRow base e size (.slice (some ⟨gb, 0, none⟩) n gc) n xs) (hb : W'.heap[gb]? = W.heap[gb]?) : W'.ownsRow base e size (.slice (some ⟨gb, 0, none⟩) n gc) n xs := by
  refine ⟨h.1, ?_⟩
  rcases h.2 with hn | ⟨g2, cap, cur, hv, h1, h2, h3⟩
  · exact .inl hn
  · refine .inr ⟨g2, cap, cur, hv, h1, ?_, h3⟩
    injection hv with hv _ _
    injection hv with hv
    injection hv with hv _ _
    subst hv
    exact hb.trans h2

theorem ownsRow_keep' {W W' : World} {base : Nat} {e : TypeId} {size : Nat} {v : Value} {n : Nat} {xs : List Value} (h : W.ownsRow base e size v n xs) (hb : Below W.heap.size W W') : W'.ownsRow base e size v n xs := by
  refine ⟨h.1, ?_⟩
  rcases h.2 with hn | ⟨g2, cap, cur, hv, h1, h2, h3⟩
  · exact .inl hn
  · exact .inr ⟨g2, cap, cur, hv, h1, (hb.block g2 (Array.getElem?_eq_some_iff.1 h2).1).trans h2, h3⟩

theorem Holding.below {w W W' : World} {q r gb gc : Nat} {gs : List Nat} {tv : Value} {T : List UInt8} (h : Holding w q r gb gc gs W tv T) (hb : Below W.heap.size W W') : Holding w q r gb gc gs W' tv T := by
  obtain ⟨⟨h1, h2, h3⟩, ⟨h4, h5⟩, h6⟩ := h
  exact ⟨⟨boxed_keep h1 hb, boxed_keep h2 hb, boxed_keep h3 hb⟩, ⟨ownsRow_keep' h4 hb, ownsRow_keep' h5 hb⟩, h6.trans (hb.mono h6.size)⟩

theorem Holding.more {w W W' : World} {q r gb gc : Nat} {gs : List Nat} {tv v : Value} {T S : List UInt8} (h : Holding w q r gb gc gs W tv T) (hq : q < r) (hgb : gb < r) (hw : w.heap.size ≤ r)
    (ho : W'.ownsRow (r + 1 + 1) 5 1 v (T.length + S.length) (cellsOf T ++ cellsOf S)) (hg : W.grownBy W' tv.ownBlock) :
    Holding w q r gb gc gs (W'.setCell ⟨r, 0, none⟩ v) v (T ++ S) ∧ KeepsOthers W (W'.setCell ⟨r, 0, none⟩ v) := by
  obtain ⟨⟨h1, h2, h3⟩, ⟨h4, h5⟩, h6⟩ := h
  have hne : ∀ j, j < r + 1 + 1 → some j ≠ tv.ownBlock := fun j hj e => by have := (h5.lt _ e.symm).1; omega
  have hr := h2.lt
  have hr1 := h3.lt
  have k1 : Boxed W' q _ _ := (hg.block q (by omega) (hne _ (by omega))).trans h1
  have k2 : Boxed W' r _ _ := (hg.block r (by omega) (hne _ (by omega))).trans h2
  have k3 : Boxed W' (r + 1) _ _ := (hg.block (r + 1) (by omega) (hne _ (by omega))).trans h3
  have k4 := ownsRow_at h4 (hg.block gb (by omega) (hne _ (by omega)))
  have hs : ∀ j, j ≠ r → (W'.setCell ⟨r, 0, none⟩ v).heap[j]? = W'.heap[j]? := fun j hj => heap_setCell_other W' ⟨r, 0, none⟩ j v hj
  have k6 : Below w.heap.size w W' := ⟨hg.os.trans h6.os, hg.tape.trans h6.tape, hg.output.trans h6.output, Nat.le_trans h6.size hg.size, fun j hj => (hg.block j (by have := h6.size; omega) (hne _ (by omega))).trans (h6.block j hj)⟩
  refine ⟨⟨⟨(hs q (by omega)).trans k1, Boxed.set v k2, (hs (r + 1) (by omega)).trans k3⟩, ⟨ownsRow_at k4 (hs gb (by omega)), ?_⟩, k6.setCell (p := ⟨r, 0, none⟩) hw v⟩, ?_⟩
  · have := ownsRow_setCell_below ho (a := ⟨r, 0, none⟩) (by show r < r + 1 + 1; omega) v
    rw [List.length_append, cellsOf_append]
    exact this
  · refine (KeepsOthers.of_grownBy hg (fun j o hj ho => ?_)).trans (KeepsOthers.setCell _ _ _)
    obtain ⟨c, fz, hc⟩ := ownsRow_kind h5 j hj
    rw [hc] at ho
    cases ho
    rfl

end Go.Proofs.YtkdhcpfmlelfcaaDoor
