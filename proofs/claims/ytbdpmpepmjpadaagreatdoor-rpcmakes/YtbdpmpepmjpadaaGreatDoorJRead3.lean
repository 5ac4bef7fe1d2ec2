/- Json: the reader: a number. -/
import Derived.Test.YtbdpmpepmjpadaaGreatDoorJRead2
namespace Go.Proofs.YtbdpmpepmjpadaaGreatDoor
set_option linter.unusedVariables false
set_option linter.unusedSimpArgs false
set_option maxRecDepth 100000
open Go Go.RowKit Go.Shelf Go.Lib

theorem digEnd_ge (T : List Nat) : ∀ (n p : Nat), p ≤ digF T n p := by
  intro n
  induction n with
  | zero => exact fun p => Nat.le_refl _
  | succ n ih =>
    intro p
    show p ≤ (if hasB T p digS then digF T n (p + 1) else p)
    have := ih (p + 1)
    split <;> omega
theorem numEnd_ge (T : List Nat) (p : Nat) : p ≤ (numEnd T p).1 := by
  have a1 : ∀ p, p ≤ num1 T p := fun p => by unfold num1; split <;> omega
  have a2 : ∀ p, p ≤ (num2 T p).1 := fun p => by
    unfold num2
    have := digEnd_ge T T.length p
    unfold digEnd
    split <;> simp <;> omega
  have a3 : ∀ x : Nat × Bool, x.1 ≤ (num3 T x).1 := fun x => by
    unfold num3
    have := digEnd_ge T T.length (x.1 + 1)
    unfold digEnd
    split <;> simp <;> omega
  have a5 : ∀ p, p ≤ num5 T p := fun p => by unfold num5; split <;> omega
  have a4 : ∀ x : Nat × Bool, x.1 ≤ (num4 T x).1 := fun x => by
    unfold num4
    have h1 := digEnd_ge T T.length (num5 T (x.1 + 1))
    have h2 := a5 (x.1 + 1)
    unfold digEnd
    split <;> simp <;> omega
  exact Nat.le_trans (a1 p) (Nat.le_trans (a2 _) (Nat.le_trans (a3 _) (a4 _)))

theorem cut_mid (W : World) (co : Option Addr) (n cc s t : Nat) (h : s ≤ t) (h1 : t ≤ n) (h2 : n ≤ cc) : (Instr.slice 22 (.slice co n cc) (some (.int .i64 (s : Int))) (some (.int .i64 (t : Int))) none).run Tryz.prog W = .ok (.slice (if cc = s then co else co.map (·.add s)) (t - s) (cc - s)) W := by
  have h1 := run_slice_lh (P := Tryz.prog) (w := W) 22 co n cc (by kernel_rfl) .i64 .i64 (s : Int) (t : Int) (by omega) (by omega) (by omega)
  rw [h1]
  go_simp
theorem Byts.mid {W : World} {ao : Option Addr} {cap s t : Nat} {T : List Nat} (h : Byts W (.slice ao T.length cap) T) (hs : s ≤ t) (ht : t ≤ T.length) (hcap : T.length ≤ cap) : Byts W (.slice (if cap = s then ao else ao.map (·.add s)) (t - s) (cap - s)) ((T.drop s).take (t - s)) := by
  have h1 := h.rest (f := s) (by omega) hcap
  rw [show T.length - s = (T.drop s).length by rw [List.length_drop]] at h1
  exact h1.front (by rw [List.length_drop]; omega)

/-- A value as it is answered: no keys, no list. -/
def nilSl : Value := .slice none 0 0
def valV (k : Int) (s : ByteArray) (kv lv : Value) : Value := .agg #[.int .i64 k, .string s, kv, lv]
def numV (s : ByteArray) : Value := valV 3 s nilSl nilSl

theorem results_jv {fn : Func} {i : Tmp} (h : fn.results = #[.cell i 27]) {tmps : Array Value} {W : World} {b : Nat} {x y z u : Value} {t : TypeId} (hp : tmps.getD i undef = .pointer (some ⟨b, 0, none⟩)) (T : BoxC W b t #[x, y, z, u]) :
    (results fn tmps).run Tryz.prog W = .ok (.agg #[x, y, z, u]) W := by
  have c0 : W.cell? ⟨b, 0, none⟩ = some x := T.cell 0
  have c1 : W.cell? ⟨b, 1, none⟩ = some y := T.cell 1
  have c2 : W.cell? ⟨b, 2, none⟩ = some z := T.cell 2
  have c3 : W.cell? ⟨b, 3, none⟩ = some u := T.cell 3
  have hp' : tmps[i]?.getD undef = .pointer (some ⟨b, 0, none⟩) := by simpa using hp
  simp [results, h, hp', go_sem, c0, c1, c2, c3]

/-- The box that a value is answered in, new. -/
def jv0 : Array Value := #[.int .i64 0, .string ⟨#[]⟩, .slice none 0 0, .slice none 0 0]

set_option maxHeartbeats 4000000 in
theorem number_bad (w : World) (R p d : Nat) (ao : Option Addr) (cap : Nat) (T : List Nat) (hr : RdJ w R (.slice ao T.length cap) p d) (hT : TxJ w R ao cap T) (hp : p ≤ T.length) (hn : (numEnd T p).2 = false) :
    Calls Tryz.prog 70 #[.pointer (some ⟨R, 0, none⟩)] w fun e w' => PanJ (numEnd T p).1 (wrongE T (numEnd T p).1) e ∧ Below w.heap.size w w' := by
  have HNE : Hid (∀ W, Below w.heap.size w W → Calls Tryz.prog 95 #[.slice ao T.length cap, .int .i64 (p : Int)] W fun e w' => e = .returned (.tuple #[.int .i64 (((numEnd T p).1 : Nat) : Int), .bool false]) ∧ w' = W) := fun W hW => by
    have h := numberEnd_calls W ao cap p T (hT.fr (Fr.of hW)).byts hp (by have := hT.len; omega)
    rw [hn] at h
    exact h
  obtain ⟨q, hq⟩ : ∃ q, (numEnd T p).1 = q := ⟨_, rfl⟩
  rw [hq] at HNE ⊢
  have HW : Hid (∀ W, Below w.heap.size w W → Calls Tryz.prog 89 #[.pointer (some ⟨R, 0, none⟩), .int .i64 (q : Int)] W fun e w' => PanJ q (wrongE T q) e ∧ w' = W) := fun W hW => wrong_calls W R q p d ao cap T (hr.below hW)
  have hb0 := bel w (.cells jv0 27)
  have hr0 := hr.below hb0
  unfold jv0 at hb0 hr0
  generalize hw0 : w.alloc (.cells #[.int .i64 0, .string ⟨#[]⟩, .slice none 0 0, .slice none 0 0] 27) = w0 at *
  have c0 : w0.cell? ⟨R, 0, none⟩ = some (.slice ao T.length cap) := hr0.cell 0
  have c1 : w0.cell? ⟨R, 1, none⟩ = some (.int .i64 (p : Int)) := hr0.cell 1
  have lR := hr0.lt
  have HB := hide hb0
  have HW0 := hide hw0
  clear hr hT hp hn hq hr0 hb0 hw0
  go_enter Tryz.func70, Tryz.ntmps70
  go_upto_region 1 with fail
  show Code.wp _ _ _ _ (w.alloc (.cells #[.int .i64 0, .string ⟨#[]⟩, .slice none 0 0, .slice none 0 0] 27))
  rw [HW0.out]
  clear HW0
  go_quiet (first | (go_at_call 95; refine Calls.quiet_of_same (HNE.out _ (bdrewN HB.out _))))
  go_wp2_with fail
  refine (HW.out _ (bdrewN HB.out _)).mono ?_
  rintro e w1 ⟨he, hw⟩
  rw [hw, show e = _ from he]
  clear hw he
  go_wp2
  exact ⟨rfl, rfl, bdrewN HB.out _⟩

set_option maxHeartbeats 4000000 in
theorem number_ok (w : World) (R p d : Nat) (ao : Option Addr) (cap : Nat) (T : List Nat) (hr : RdJ w R (.slice ao T.length cap) p d) (hT : TxJ w R ao cap T) (hp : p ≤ T.length) (hn : (numEnd T p).2 = true) :
    Calls Tryz.prog 70 #[.pointer (some ⟨R, 0, none⟩)] w fun e w' => e = .returned (numV (strOf ((T.drop p).take ((numEnd T p).1 - p)))) ∧ AtJ w R (.slice ao T.length cap) (numEnd T p).1 d w' := by
  have HNE : Hid (∀ W, Below w.heap.size w W → Calls Tryz.prog 95 #[.slice ao T.length cap, .int .i64 (p : Int)] W fun e w' => e = .returned (.tuple #[.int .i64 (((numEnd T p).1 : Nat) : Int), .bool true]) ∧ w' = W) := fun W hW => by
    have h := numberEnd_calls W ao cap p T (hT.fr (Fr.of hW)).byts hp (by have := hT.len; omega)
    rw [hn] at h
    exact h
  have hge := numEnd_ge T p
  have hle := numEnd_le hp
  obtain ⟨q, hq⟩ : ∃ q, (numEnd T p).1 = q := ⟨_, rfl⟩
  rw [hq] at HNE hge hle ⊢
  have hb0 := bel w (.cells jv0 27)
  have hr0 := hr.below hb0
  have hx0 := BoxC.new w 27 jv0
  have hRw := hr.lt
  unfold jv0 at hb0 hr0 hx0
  generalize hw0 : w.alloc (.cells #[.int .i64 0, .string ⟨#[]⟩, .slice none 0 0, .slice none 0 0] 27) = w0 at *
  have c0 : w0.cell? ⟨R, 0, none⟩ = some (.slice ao T.length cap) := hr0.cell 0
  have c1 : w0.cell? ⟨R, 1, none⟩ = some (.int .i64 (p : Int)) := hr0.cell 1
  have f1 : w0.frozen? ⟨R, 1, none⟩ = false := hr0.frozen 1
  have lR := hr0.lt
  have HB := hide hb0
  have HW0 := hide hw0
  have HT := hide hT
  have HR0 := hide hr0
  have HX0 := hide hx0
  have HGE := hide hge
  have HLE := hide hle
  have HRW := hide hRw
  clear hr hT hp hn hq hr0 hb0 hw0 hx0 hge hle hRw
  go_enter Tryz.func70, Tryz.ntmps70
  go_upto_region 1 with fail
  show Code.wp _ _ _ _ (w.alloc (.cells #[.int .i64 0, .string ⟨#[]⟩, .slice none 0 0, .slice none 0 0] 27))
  rw [HW0.out]
  clear HW0
  go_quiet (first | (go_at_call 95; refine Calls.quiet_of_same (HNE.out _ (bdrewN HB.out _))))
  go_upto_region 6 with fail
  have hB1 := bdrewN HB.out nq
  have hB01 := bdrewN (Below.refl w0.heap.size w0) nq
  have HR1 := hide ((HR0.out.below hB01).sets (q := q))
  have HX1 := hide (BoxC.other (HX0.out.below hB01) (show w.heap.size ≠ R by have := HRW.out; omega) 1 (.int .i64 (q : Int)))
  have HF1 : Hid (Fr R none w ((w0.drewN nq).setCell ⟨R, 1, none⟩ (.int .i64 (q : Int)))) := (Fr.of hB1).set 1 _
  generalize hw1 : (w0.drewN nq).setCell ⟨R, 1, none⟩ (.int .i64 (q : Int)) = w1 at *
  have HBY := hide ((HT.out.fr HF1.out).byts.mid HGE.out HLE.out HT.out.cap)
  have hcut := fun W => cut_mid W ao T.length cap p q HGE.out HLE.out HT.out.cap
  have hcv := conv_byts HBY.out
  obtain ⟨st, hst⟩ : ∃ st, strOf ((T.drop p).take (q - p)) = st := ⟨_, rfl⟩
  rw [hst] at hcv
  have HST := hide hst
  clear hst
  generalize (if cap = p then ao else ao.map (·.add p)) = ao2 at *
  have c0' : w1.cell? ⟨R, 0, none⟩ = some (.slice ao T.length cap) := HR1.out.cell 0
  have x0 : w1.cell? ⟨w.heap.size, 0, none⟩ = some (.int .i64 0) := HX1.out.cell 0
  have x1 : w1.cell? ⟨w.heap.size, 1, none⟩ = some (.string ⟨#[]⟩) := HX1.out.cell 1
  have x2 : w1.cell? ⟨w.heap.size, 2, none⟩ = some (.slice none 0 0) := HX1.out.cell 2
  have x3 : w1.cell? ⟨w.heap.size, 3, none⟩ = some (.slice none 0 0) := HX1.out.cell 3
  have y0 := HX1.out.frozen 0
  have y1 := HX1.out.frozen 1
  have y2 := HX1.out.frozen 2
  have y3 := HX1.out.frozen 3
  have lX := HX1.out.lt
  have lR1 := HR1.out.lt
  have hne : ¬ R = w.heap.size := by have := HRW.out; omega
  clear hB1 hB01 hw1 c0 c1 f1 lR HR0 HX0 HBY
  go_wp2
  have z := (((HX1.out.set 0 (.int .i64 3)).set 1 (.string st)).set 2 (.slice none 0 0)).set 3 (.slice none 0 0)
  refine bodyPost_ret (results_jv rfl rfl z) rfl ?_
  have hn : ∀ {W : World} (i : Nat) (x : Value), Fr R none w W → Fr R none w (W.setCell ⟨w.heap.size, i, none⟩ x) := fun i x h => h.setNew (Nat.le_refl _) i x
  refine ⟨by rw [HST.out]; rfl, ?_, hn 3 _ (hn 2 _ (hn 1 _ (hn 0 _ HF1.out)))⟩
  exact (((HR1.out.other hne 0 _).other hne 1 _).other hne 2 _).other hne 3 _

end Go.Proofs.YtbdpmpepmjpadaaGreatDoor
