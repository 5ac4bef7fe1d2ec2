/- A text and its lines: bytes of a string, bodyOf, offset. -/
import Derived.Test.YthhpfdjcggfhaaaDoorUOff
import Derived.Test.YthhpfdjcggfhaaaDoorTMov
import Derived.Test.YthhpfdjcggfhaaaDoorTCat
import Derived.Laws.IdiomStrings
namespace Go.Proofs.YthhpfdjcggfhaaaDoor
set_option linter.unusedVariables false
set_option linter.unusedSimpArgs false
set_option maxRecDepth 100000
open Go Go.RowKit Go.Shelf Go.Lib

theorem strOf_size (T : List Nat) : (strOf T).size = T.length := by simp [strOf, ByteArray.size]

/-- The bytes of a string, in memory of their own. -/
theorem conv_str (w : World) (T : List Nat) (hT : ∀ x ∈ T, x < 256) : ∃ cap w', (convert 9 36 (.string (strOf T))).run Tryd.prog w = .ok (.slice (some ⟨w.heap.size, 0, none⟩) T.length cap) w' ∧ Byt w' (some ⟨w.heap.size, 0, none⟩) cap T ∧ Below w.heap.size w w' ∧ w'.heap.size = w.heap.size + 1 := by
  have h := run_bytes_of_string (P := Tryd.prog) w 9 36 5 (strOf T) Tryd.underlying9 Tryd.underlying36 Tryd.underlying5
  rw [strOf_size] at h
  have hge := grownCap_ge w T.length 0 5
  generalize grownCap w T.length 0 5 = cap at h hge
  refine ⟨cap, _, h, ⟨⟨_, cap, rfl, hT, fun j hj => ⟨w.heap.size, 0, rfl, ?_⟩⟩, hge, fun e => by cases e⟩, (Below.refl _ w).drew.alloc (Nat.le_refl _) _, by simp⟩
  have hh := World.alloc_heap_new w.drew (.cells (bytesRow (strOf T) cap) 5 ((bytesRow (strOf T) cap).size, (bytesRow (strOf T) cap).size + 1))
  have hj' : j < (strOf T).data.size := by simp [strOf]; exact hj
  have hb := bytesRow_at (strOf T) cap j hj'
  simp only [World.cell?, Nat.zero_add]
  rw [show w.heap.size = w.drew.heap.size from rfl, hh]
  simp only [hb]
  have hx : T[j] < 256 := hT _ (List.getElem_mem hj)
  simp [strOf, nth, hj]
  omega

theorem results_body {fn : Func} {i : Tmp} (h : fn.results = #[.cell i 40]) {tmps : Array Value} {W : World} {b : Nat} {x y : Value} {t : TypeId} (hp : tmps.getD i undef = .pointer (some ⟨b, 0, none⟩)) (T : BoxC W b t #[x, y]) :
    (results fn tmps).run Tryd.prog W = .ok (.agg #[x, y]) W := by
  have c0 : W.cell? ⟨b, 0, none⟩ = some x := T.cell 0
  have c1 : W.cell? ⟨b, 1, none⟩ = some y := T.cell 1
  have hp' : tmps[i]?.getD undef = .pointer (some ⟨b, 0, none⟩) := by simpa using hp
  simp [results, h, hp', go_sem, c0, c1]
theorem ownsRow_other {W : World} {base : Nat} {e : TypeId} {size : Nat} {v : Value} {n : Nat} {xs : List Value} (h : W.ownsRow base e size v n xs) {B : Nat} (hB : B < base) (i : Nat) (x : Value) : (W.setCell ⟨B, i, none⟩ x).ownsRow base e size v n xs := by
  refine ⟨h.1, ?_⟩
  rcases h.2 with hn | ⟨g2, cap, cur, hv, h1, h2, h3⟩
  · exact .inl hn
  · exact .inr ⟨g2, cap, cur, hv, h1, (heap_setCell_other W ⟨B, i, none⟩ g2 x (by show g2 ≠ B; omega)).trans h2, h3⟩
theorem Byt.kept {w W : World} {ao : Option Addr} {cap : Nat} {T : List Nat} (h : Byt w ao cap T) (hb : Below w.heap.size w W) : Byt W ao cap T := h.below hb

/-- A body: bytes, and where their lines begin. -/
def Body (W : World) (ao : Option Addr) (cap : Nat) (lv : Value) (T : List Nat) : Prop := Byt W ao cap T ∧ IntsIn W lv (linesL T)
theorem Body.below {W W' : World} {ao : Option Addr} {cap : Nat} {lv : Value} {T : List Nat} (h : Body W ao cap lv T) (hb : Below W.heap.size W W') : Body W' ao cap lv T := ⟨h.1.below hb, h.2.below hb⟩

/-- No block below n. -/
def Far (n : Nat) (ao : Option Addr) : Prop := ∀ a, ao = some a → n ≤ a.block
theorem Far.mono {n m : Nat} {ao : Option Addr} (h : Far n ao) (hm : m ≤ n) : Far m ao := fun a e => Nat.le_trans hm (h a e)
theorem cell_other {W : World} {B i : Nat} {x : Value} {b j : Nat} (hne : b ≠ B) : (W.setCell ⟨B, i, none⟩ x).cell? ⟨b, j, none⟩ = W.cell? ⟨b, j, none⟩ := by
  have := heap_setCell_other W ⟨B, i, none⟩ b x hne
  simp only [World.cell?, this]
theorem Byt.other {W : World} {ao : Option Addr} {cap : Nat} {T : List Nat} (h : Byt W ao cap T) {n B : Nat} (hf : Far n ao) (hB : B < n) (i : Nat) (x : Value) : Byt (W.setCell ⟨B, i, none⟩ x) ao cap T := by
  obtain ⟨⟨ao', c', e, h1, h2⟩, h3, h4⟩ := h
  cases e
  refine ⟨⟨ao, cap, rfl, h1, fun j hj => ?_⟩, h3, h4⟩
  obtain ⟨b, off, e, hc⟩ := h2 j hj
  exact ⟨b, off, e, (cell_other (by have := hf _ e; dsimp only at this; omega)).trans hc⟩
theorem IntsIn.other {W : World} {ao : Option Addr} {n cap : Nat} {L : List Int} (h : IntsIn W (.slice ao n cap) L) {m B : Nat} (hf : Far m ao) (hB : B < m) (i : Nat) (x : Value) : IntsIn (W.setCell ⟨B, i, none⟩ x) (.slice ao n cap) L := by
  obtain ⟨ao', c', e, h2⟩ := h
  cases e
  refine ⟨ao, cap, rfl, fun j hj => ?_⟩
  obtain ⟨b, off, e, hc⟩ := h2 j hj
  exact ⟨b, off, e, (cell_other (by have := hf _ e; dsimp only at this; omega)).trans hc⟩
theorem Body.other {W : World} {ao : Option Addr} {cap : Nat} {lo : Option Addr} {ln lc : Nat} {T : List Nat} (h : Body W ao cap (.slice lo ln lc) T) {n B : Nat} (h1 : Far n ao) (h2 : Far n lo) (hB : B < n) (i : Nat) (x : Value) : Body (W.setCell ⟨B, i, none⟩ x) ao cap (.slice lo ln lc) T := ⟨h.1.other h1 hB i x, h.2.other h2 hB i x⟩
theorem own_far {W : World} {base : Nat} {e : TypeId} {size : Nat} {ao : Option Addr} {m c n : Nat} {xs : List Value} (h : W.ownsRow base e size (.slice ao m c) n xs) : Far base ao := fun a ea => by
  rcases h.2 with ⟨hv, _⟩ | ⟨g2, cap, cur, hv, h1, _⟩
  · cases hv; cases ea
  · cases hv; cases ea; exact h1

set_option maxHeartbeats 4000000 in
theorem bodyOf_calls (w : World) (ao : Option Addr) (cap : Nat) (T : List Nat) (h : Byt w ao cap T) (hlen : T.length ≤ 1000000000) :
    Calls Tryd.prog 29 #[.slice ao T.length cap] w fun e w' => ∃ lo ln lc, e = .returned (.agg #[.slice ao T.length cap, .slice lo ln lc]) ∧ Body w' ao cap (.slice lo ln lc) T ∧ Far (w.heap.size + 1) lo ∧ Below w.heap.size w w' := by
  have H := hide h
  clear h
  have b0 := BoxC.new w 40 #[.slice none 0 0, .slice none 0 0]
  have B0 := hide b0
  have hB := hide (bel w (.cells #[.slice none 0 0, .slice none 0 0] 40))
  clear b0
  go_enter Tryd.func29, Tryd.ntmps29
  go_wp2_with fail
  refine (lines_calls _ ao cap T (H.out.below hB.out).1 hlen).mono ?_
  rintro e w1 ⟨rv, rfl, hown, hb⟩
  have hi := hown.ints
  obtain ⟨lo, lc, hv, _⟩ := id hi
  subst hv
  have HI := hide hown
  have x1 := B0.out.below hb
  have X1 := hide x1
  have H1 := hide ((H.out.below hB.out).below hb)
  have HB1 := hide (bafter hB.out hb (by simp))
  have HH := hide H.out
  have s0 : w1.cell? ⟨w.heap.size, 0, none⟩ = some (.slice none 0 0) := x1.cell 0
  have s1 : w1.cell? ⟨w.heap.size, 1, none⟩ = some (.slice none 0 0) := x1.cell 1
  have f0 := x1.frozen 0
  have f1 := x1.frozen 1
  have l1 := x1.lt
  clear hi x1 hown hb B0 hB H
  have HF : Hid (∀ W, Below w.heap.size w W → OwnI (w.heap.size + 1) W (.slice lo (linesL T).length lc) (linesL T) → Body W ao cap (.slice lo (linesL T).length lc) T) := fun W k o => ⟨HH.out.below k, o.ints⟩
  have HI' : Hid (OwnI (w.heap.size + 1) w1 (.slice lo (linesL T).length lc) (linesL T)) := by
    have := HI.out
    simp only [World.size_alloc] at this
    exact this
  generalize (linesL T).length = M at HF HI' ⊢
  clear HI HH H1
  go_wp2
  refine bodyPost_ret (results_body rfl rfl ((X1.out.set 0 _).set 1 _)) rfl ?_
  have kB := (HB1.out.setCell (p := ⟨w.heap.size, 0, none⟩) (Nat.le_refl _) (.slice ao T.length cap)).setCell (p := ⟨w.heap.size, 1, none⟩) (Nat.le_refl _) (.slice lo M lc)
  exact ⟨lo, M, lc, rfl, HF.out _ kB (ownsRow_other (ownsRow_other HI'.out (Nat.lt_succ_self _) _ _) (Nat.lt_succ_self _) _ _), own_far HI'.out, kB⟩

set_option maxHeartbeats 4000000 in
theorem boffset_calls (w : World) (ao : Option Addr) (cap : Nat) (lo : Option Addr) (ln lc : Nat) (T : List Nat) (p u : Int) (h : Body w ao cap (.slice lo ln lc) T) (hK : Know w) (hlen : T.length ≤ 1000000000) :
    Calls Tryd.prog 35 #[.agg #[.slice ao T.length cap, .slice lo ln lc], .agg #[.int .i64 p, .int .i64 u]] w fun e w' => ∃ r : Int, e = .returned (.int .i64 r) ∧ OffR T (linesL T) p u r ∧ Below w.heap.size w w' := by
  have H := hide h
  have HK := hide hK
  clear h hK
  have hB := hide ((bel w (.cells #[.slice ao T.length cap, .slice lo ln lc] 40)).alloc (by simp) (.cells #[.int .i64 p, .int .i64 u] 48))
  go_enter Tryd.func35, Tryd.ntmps35
  go_wp2_with fail
  have H1 := H.out.below hB.out
  refine (offset_calls _ ao cap T _ (linesL T) p u H1.1 H1.2 (HK.out.below hB.out) hlen).mono ?_
  rintro e w1 ⟨r, rfl, hr, hb⟩
  have HR := hide hr
  have HB1 := hide (bafter hB.out hb (by simp))
  clear hr hb H1
  go_wp2
  go_ret
  exact ⟨r, rfl, HR.out, HB1.out⟩

end Go.Proofs.YthhpfdjcggfhaaaDoor
