/- Texts of json and rpc, part 3: JPar, JRpcE, JEfn, JEq, RRead0, RRead, RpcBackW, QRd0, QRd1, QRd2, QRd3, QRd4, QRd5, QRd6, QRd7, QREnc, QRd8. -/
import Derived.Test.YtbdpmpepmjpadaaGreatDoorLnP2
import Derived.Test.YtbdpmpepmjpadaaGreatDoorLnP1
import Derived.Test.YtbdpmpepmjpadaaGreatDoorUEnc
namespace Go.Proofs.YtbdpmpepmjpadaaGreatDoor
set_option linter.unusedVariables false
set_option linter.unusedSimpArgs false
set_option maxRecDepth 100000
open Go Go.RowKit Go.Shelf Go.Lib

set_option maxHeartbeats 4000000 in
theorem parse_tree (w : World) (ao : Option Addr) (cap : Nat) (T : List Nat) (N : Nat) (T0 : JT) (z : Nat) (h : Byts w (.slice ao T.length cap) T) (hU : Utf8Tabs 0 1 w) (h1 : ∀ k, k < N → posL T k < T.length) (h2 : posL T N = T.length) (hv : ∀ k, k < N → runeAt T (posL T k) ≠ -1) (hlen : T.length ≤ 1000000) (hcap : T.length ≤ cap)
    (hb : 0 < T.length) (hval : ∀ W R, RdJ W R (.slice ao T.length cap) 0 0 → TxJ W R ao cap T → Calls Tryz.prog 48 #[.pointer (some ⟨R, 0, none⟩)] W (TreeJ T0 z W R (.slice ao T.length cap) 0)) (hz : z ≤ T.length) (hz2 : blEnd T z = T.length) :
    Calls Tryz.prog 23 #[.slice ao T.length cap] w fun e w' => (∃ x : JC, e = .returned (.tuple #[vagg x, .int .i64 0, .int .i64 0]) ∧ TIn w' (fun b => w.heap.size ≤ b) x T0) ∧ Below w.heap.size w w' := by
  have hmf : ∀ (fn : Fn) (first cap : Array Value) (w : World), (Instr.makeFunc fn first cap).run Tryz.prog w = .ok (.func fn first cap) w := fun _ _ _ _ => rfl
  have hb0 : Below w.heap.size w (((w.alloc (.cells jv0 27)).alloc (.cells #[.int .i64 0] 3)).alloc (.cells #[.int .i64 0] 66)) := ((bel w _).alloc (by simp) _).alloc (by simp; omega) _
  have hv0 := ((BoxC.new w 27 jv0).alloc (.cells #[.int .i64 0] 3)).alloc (.cells #[.int .i64 0] 66)
  have hp0 := (BoxC.new (w.alloc (.cells jv0 27)) 3 #[.int .i64 0]).alloc (.cells #[.int .i64 0] 66)
  have he0 := BoxC.new ((w.alloc (.cells jv0 27)).alloc (.cells #[.int .i64 0] 3)) 66 #[.int .i64 0]
  rw [World.size_alloc] at hp0
  rw [World.size_alloc, World.size_alloc] at he0
  unfold jv0 at hb0 hv0 hp0 he0
  have hR0 : ResJ _ w.heap.size (.int .i64 0) (.string ⟨#[]⟩) (.slice none 0 0) (.slice none 0 0) (.int .i64 0) (.int .i64 0) := ⟨hv0, hp0, he0⟩
  have hs0 : (((w.alloc (.cells #[.int .i64 0, .string ⟨#[]⟩, .slice none 0 0, .slice none 0 0] 27)).alloc (.cells #[.int .i64 0] 3)).alloc (.cells #[.int .i64 0] 66)).heap.size = w.heap.size + 3 := by simp
  generalize hw0 : ((w.alloc (.cells #[.int .i64 0, .string ⟨#[]⟩, .slice none 0 0, .slice none 0 0] 27)).alloc (.cells #[.int .i64 0] 3)).alloc (.cells #[.int .i64 0] 66) = w0 at *
  have HVC := hide (valid_calls w0 ao cap T N (h.below hb0) (Utf8Tabs_below hU hb0) h1 h2 (by omega) hcap)
  have HR0 := hide hR0
  have HB0 := hide hb0
  have HS0 := hide hs0
  have HW0 := hide hw0
  have HH := hide h
  have HV := hide hv
  have HVT := hide hval
  have HZ := hide (And.intro hz hz2)
  have HLN := hide hlen
  have HCP := hide hcap
  have HBB := hide hb
  clear hb0 hv0 hp0 he0 hR0 hs0 hw0 h hU h1 h2 hv hlen hcap hb hval hz hz2
  go_enter_defers Tryz.func23, Tryz.ntmps23
  go_wp2_with fail
  rw [HW0.out]
  clear HW0
  refine HVC.out.mono ?_
  rintro e w1 ⟨at', er, rfl, hTold, hB1⟩
  have ht : at' = 0 ∧ er = 0 := by
    rcases hTold with ⟨k, hk, _, hx, _⟩ | ⟨_, ha, he⟩
    · exact absurd hx (HV.out k hk)
    · exact ⟨ha, he⟩
  obtain ⟨rfl, rfl⟩ := ht
  have hB1' := hB1
  have hR1 := (⟨HR0.out.v.below hB1, HR0.out.p.below hB1, HR0.out.e.below hB1⟩ : ResJ w1 w.heap.size _ _ _ _ _ _)
  have hb2 := bel w1 (.cells #[.slice ao T.length cap, .int .i64 0, .int .i64 0] 101)
  have hr2 : RdJ (w1.alloc (.cells #[.slice ao T.length cap, .int .i64 0, .int .i64 0] 101)) w1.heap.size (.slice ao T.length cap) 0 0 := BoxC.new w1 101 #[.slice ao T.length cap, .int .i64 0, .int .i64 0]
  have hR2 := (⟨hR1.v.below hb2, hR1.p.below hb2, hR1.e.below hb2⟩ : ResJ (w1.alloc (.cells #[.slice ao T.length cap, .int .i64 0, .int .i64 0] 101)) w.heap.size _ _ _ _ _ _)
  have hB2 : Below w.heap.size w (w1.alloc (.cells #[.slice ao T.length cap, .int .i64 0, .int .i64 0] 101)) := (HB0.out.trans (hB1.mono HB0.out.size)).trans (hb2.mono (Nat.le_trans HB0.out.size hB1.size))
  have hlt : w.heap.size + 1 + 1 < w1.heap.size := hR1.e.lt
  have hT2 : TxJ (w1.alloc (.cells #[.slice ao T.length cap, .int .i64 0, .int .i64 0] 101)) w1.heap.size ao cap T := by
    refine ⟨HH.out.below hB2, fun a e => ?_, HLN.out, HCP.out⟩
    obtain ⟨ao', c', e', _, hx⟩ := HH.out
    cases e'
    have hpos := HBB.out
    obtain ⟨b, off, e2, hx⟩ := hx 0 (by omega)
    rw [e] at e2
    cases e2
    have := block_lt hx
    have := hlt
    show b ≠ _
    omega
  generalize hw2 : w1.alloc (.cells #[.slice ao T.length cap, .int .i64 0, .int .i64 0] 101) = w2 at *
  generalize hRR : w1.heap.size = R at *
  have HW2 := hide hw2
  have HRR := hide hRR
  have HVA := hide (HVT.out w2 R hr2 hT2)
  have HR2 := hide hR2
  have HB2 := hide hB2
  have HT2 := hide hT2
  have HLT := hide hlt
  have HRL := hide hr2.lt
  clear hB1 hB1' hR1 hb2 hr2 hR2 hB2 hlt hT2 hw2 hRR HR0 HVC HS0 hTold HB0
  go_wp2_with fail
  rw [HW2.out, HRR.out]
  clear HW2 HRR
  refine HVA.out.mono ?_
  rintro e w3 ⟨⟨xk, xs, xK, xL⟩, rfl, hT0, hr3, hf⟩
  obtain ⟨h4, h5⟩ := hT0.sl
  simp only at h4 h5
  obtain ⟨ua, un, uc, rfl⟩ := h4
  obtain ⟨va, vn, vc, rfl⟩ := h5
  unfold vagg
  simp only
  obtain ⟨hz1', hz2'⟩ := HZ.out
  have n1 : w.heap.size ≠ R := by have := HLT.out; omega
  have n2 : w.heap.size + 1 ≠ R := by have := HLT.out; omega
  have n3 : w.heap.size + 1 + 1 ≠ R := by have := HLT.out; omega
  have hR3 := (⟨HR2.out.v.fr hf n1 (by simp), HR2.out.p.fr hf n2 (by simp), HR2.out.e.fr hf n3 (by simp)⟩ : ResJ w3 w.heap.size _ _ _ _ _ _)
  have hT3 := HT2.out.fr hf
  have hB3 : Below w.heap.size w w3 := HB2.out.trans (hf.below (by have := HLT.out; omega) (fun k e => by cases e) HB2.out.size)
  have hle2 : w.heap.size + 1 + 1 < w2.heap.size := HR2.out.e.lt
  have a0 := hR3.v.cell 0
  have a1 := hR3.v.cell 1
  have a2 := hR3.v.cell 2
  have a3 := hR3.v.cell 3
  simp only [List.getElem?_toArray, List.getElem?_cons_zero, List.getElem?_cons_succ, Nat.reduceAdd] at a0 a1 a2 a3
  have f0 := hR3.v.frozen 0
  have f1 := hR3.v.frozen 1
  have f2 := hR3.v.frozen 2
  have f3 := hR3.v.frozen 3
  have lA := hR3.v.lt
  have hv4 := resJ_v hR3.v (.int .i64 xk) (.string xs) (.slice ua un uc) (.slice va vn vc)
  have hp4 := box_off4 hR3.p (show w.heap.size + 1 ≠ w.heap.size by omega) (.int .i64 xk) (.string xs) (.slice ua un uc) (.slice va vn vc)
  have he4 := box_off4 hR3.e (show w.heap.size + 1 + 1 ≠ w.heap.size by omega) (.int .i64 xk) (.string xs) (.slice ua un uc) (.slice va vn vc)
  have hr4 := box_off4 hr3 n1.symm (.int .i64 xk) (.string xs) (.slice ua un uc) (.slice va vn vc)
  have hB4 : Below w.heap.size w ((((w3.setCell ⟨w.heap.size, 0, none⟩ (.int .i64 xk)).setCell ⟨w.heap.size, 1, none⟩ (.string xs)).setCell ⟨w.heap.size, 2, none⟩ (.slice ua un uc)).setCell ⟨w.heap.size, 3, none⟩ (.slice va vn vc)) :=
    (((hB3.setCell (p := ⟨w.heap.size, 0, none⟩) (Nat.le_refl _) _).setCell (p := ⟨w.heap.size, 1, none⟩) (Nat.le_refl _) _).setCell (p := ⟨w.heap.size, 2, none⟩) (Nat.le_refl _) _).setCell (p := ⟨w.heap.size, 3, none⟩) (Nat.le_refl _) _
  have hT4 : TxJ ((((w3.setCell ⟨w.heap.size, 0, none⟩ (.int .i64 xk)).setCell ⟨w.heap.size, 1, none⟩ (.string xs)).setCell ⟨w.heap.size, 2, none⟩ (.slice ua un uc)).setCell ⟨w.heap.size, 3, none⟩ (.slice va vn vc)) R ao cap T := ⟨HH.out.below hB4, hT3.off, hT3.len, hT3.cap⟩
  have hT4' : TIn ((((w3.setCell ⟨w.heap.size, 0, none⟩ (.int .i64 xk)).setCell ⟨w.heap.size, 1, none⟩ (.string xs)).setCell ⟨w.heap.size, 2, none⟩ (.slice ua un uc)).setCell ⟨w.heap.size, 3, none⟩ (.slice va vn vc)) (fun b => w2.heap.size ≤ b) (xk, xs, .slice ua un uc, .slice va vn vc) T0 := hT0.keep fun b hs _ => by
    have hs' : w2.heap.size ≤ b := hs
    have hne : b ≠ w.heap.size := by omega
    refine ⟨hs, ?_⟩
    rw [Below.heap_setCell _ ⟨w.heap.size, 3, none⟩ _ b hne, Below.heap_setCell _ ⟨w.heap.size, 2, none⟩ _ b hne, Below.heap_setCell _ ⟨w.heap.size, 1, none⟩ _ b hne, Below.heap_setCell _ ⟨w.heap.size, 0, none⟩ _ b hne]
  generalize hw4 : (((w3.setCell ⟨w.heap.size, 0, none⟩ (.int .i64 xk)).setCell ⟨w.heap.size, 1, none⟩ (.string xs)).setCell ⟨w.heap.size, 2, none⟩ (.slice ua un uc)).setCell ⟨w.heap.size, 3, none⟩ (.slice va vn vc) = w4 at *
  have HW4 := hide hw4
  have HSK := hide (skipBlanks_calls w4 R z 0 ao cap T hr4 hT4 hz1')
  rw [hz2'] at HSK
  have HV4 := hide hv4
  have HP4 := hide hp4
  have HE4 := hide he4
  have HO4 := hide hT4'
  have HB4 := hide hB4
  clear hT0 hT4' hr3 hf hR3 hT3 hB3 hv4 hp4 he4 hr4 hB4 hT4 hw4 hz1' hz2' HB2 HT2 n1 n2 n3
  go_wp2_with fail
  rw [HW4.out]
  clear HW4 a0 a1 a2 a3 f0 f1 f2 f3 lA
  refine HSK.out.mono ?_
  rintro e w5 ⟨rfl, hr5, _, hf5⟩
  have n1 : w.heap.size ≠ R := by have := HLT.out; omega
  have n2 : w.heap.size + 1 ≠ R := by have := HLT.out; omega
  have n3 : w.heap.size + 1 + 1 ≠ R := by have := HLT.out; omega
  have hv5 := HV4.out.fr hf5 n1 (by simp)
  have hp5 := HP4.out.fr hf5 n2 (by simp)
  have he5 := HE4.out.fr hf5 n3 (by simp)
  have hle2 : w.heap.size + 1 + 1 < w2.heap.size := HR2.out.e.lt
  have hT5 := HO4.out.keep (W' := w5) (S' := fun b => w2.heap.size ≤ b) (fun b hs hlt => ⟨hs, hf5.block hlt (fun q => by have hs' : w2.heap.size ≤ b := hs; have := HRL.out; omega) (by simp)⟩)
  have hB5 := HB4.out.trans (hf5.below (by have := HLT.out; omega) (fun k e => by cases e) HB4.out.size)
  have c1 : w5.cell? ⟨R, 1, none⟩ = some (.int .i64 (T.length : Int)) := hr5.cell 1
  have lR := hr5.lt
  have a0 := hv5.cell 0
  have a1 := hv5.cell 1
  have a2 := hv5.cell 2
  have a3 := hv5.cell 3
  have b0 := hp5.cell 0
  have b1 := he5.cell 0
  simp only [List.getElem?_toArray, List.getElem?_cons_zero, List.getElem?_cons_succ, Nat.reduceAdd] at a0 a1 a2 a3 b0 b1
  have f0 := hv5.frozen 0
  have f1 := hv5.frozen 1
  have f2 := hv5.frozen 2
  have f3 := hv5.frozen 3
  have f4 := hp5.frozen 0
  have f5 := he5.frozen 0
  have lA := hv5.lt
  have dlt : ¬ (T.length : Int) < (T.length : Int) := by omega
  have HR5 : Hid (ResJ w5 w.heap.size (.int .i64 xk) (.string xs) (.slice ua un uc) (.slice va vn vc) (.int .i64 0) (.int .i64 0)) := ⟨hv5, hp5, he5⟩
  have HO5 := hide hT5
  have HLE := hide hle2
  have HB5 := hide hB5
  clear hr5 hf5 hv5 hp5 he5 hT5 hle2 hB5 HV4 HP4 HE4 HO4 HB4 HR2 n1 n2 n3 HSK
  go_wp2
  have HR6 := resJ_put HR5.out (.int .i64 xk) (.string xs) (.slice ua un uc) (.slice va vn vc) (.int .i64 0) (.int .i64 0)
  have HB6 := below_put HB5.out (Nat.le_refl _) (.int .i64 xk) (.string xs) (.slice ua un uc) (.slice va vn vc) (.int .i64 0) (.int .i64 0)
  have HO6 := HO5.out.keep (W' := (((((w5.setCell ⟨w.heap.size, 0, none⟩ (.int .i64 xk)).setCell ⟨w.heap.size, 1, none⟩ (.string xs)).setCell ⟨w.heap.size, 2, none⟩ (.slice ua un uc)).setCell ⟨w.heap.size, 3, none⟩ (.slice va vn vc)).setCell ⟨w.heap.size + 1, 0, none⟩ (.int .i64 0)).setCell ⟨w.heap.size + 1 + 1, 0, none⟩ (.int .i64 0)) (S' := fun b => w.heap.size ≤ b) (fun b hs hlt => by
    have hs' : w2.heap.size ≤ b := hs
    have hle := HLE.out
    have hne : b ≠ w.heap.size := by omega
    refine ⟨by show w.heap.size ≤ b; omega, ?_⟩
    rw [Below.heap_setCell _ ⟨w.heap.size + 1 + 1, 0, none⟩ _ b (by show b ≠ w.heap.size + 1 + 1; omega), Below.heap_setCell _ ⟨w.heap.size + 1, 0, none⟩ _ b (by show b ≠ w.heap.size + 1; omega), Below.heap_setCell _ ⟨w.heap.size, 3, none⟩ _ b hne, Below.heap_setCell _ ⟨w.heap.size, 2, none⟩ _ b hne, Below.heap_setCell _ ⟨w.heap.size, 1, none⟩ _ b hne, Below.heap_setCell _ ⟨w.heap.size, 0, none⟩ _ b hne])
  refine leaves_cons (f := 46) (args := #[.pointer (some ⟨w.heap.size, 0, none⟩), .pointer (some ⟨w.heap.size + 1, 0, none⟩), .pointer (some ⟨w.heap.size + 1 + 1, 0, none⟩)]) (by simp) (by simp [go_sem]) ?_
  refine (parse1_ret _ _ _ _).mono ?_
  rintro e u' w6 ⟨rfl, rfl, hw6⟩
  rw [hw6]
  clear hw6
  show Leaves _ _ _ _ [] .returning _
  exact ⟨_, results_p3 rfl rfl rfl rfl HR6, ⟨_, rfl, HO6⟩, HB6⟩

end Go.Proofs.YtbdpmpepmjpadaaGreatDoor

namespace Go.Proofs.YtbdpmpepmjpadaaGreatDoor
set_option linter.unusedVariables false
set_option linter.unusedSimpArgs false
set_option maxRecDepth 100000
open Go Go.RowKit Go.Shelf Go.Lib

def ex6 : List Nat := [123, 34, 106, 115, 111, 110, 114, 112, 99, 34, 58, 34, 50, 46, 48, 34, 44, 34, 105, 100, 34, 58, 49, 44, 34, 109, 101, 116, 104, 111, 100, 34, 58, 34, 109, 34, 125]
def ex7 : List Nat := [91, 49, 93]
theorem ex6_small : ∀ x ∈ ex6, x < 256 := by decide
theorem ex7_small : ∀ x ∈ ex7, x < 256 := by decide
theorem ex6_pos : ∀ k, k < 37 → posL ex6 k < ex6.length := by decide +kernel
theorem ex7_pos : ∀ k, k < 3 → posL ex7 k < ex7.length := by decide +kernel
theorem ex6_end : posL ex6 37 = ex6.length := by decide +kernel
theorem ex7_end : posL ex7 3 = ex7.length := by decide +kernel
theorem ex6_rune : ∀ k, k < 37 → runeAt ex6 (posL ex6 k) ≠ -1 := by decide +kernel
theorem ex7_rune : ∀ k, k < 3 → runeAt ex7 (posL ex7 k) ≠ -1 := by decide +kernel
def kJson : ByteArray := ⟨#[106, 115, 111, 110, 114, 112, 99]⟩
def kId : ByteArray := ⟨#[105, 100]⟩
def kMethod : ByteArray := ⟨#[109, 101, 116, 104, 111, 100]⟩
def sVer : ByteArray := ⟨#[50, 46, 48]⟩
def sM : ByteArray := ⟨#[109]⟩
def sOne : ByteArray := ⟨#[49]⟩
def cVer : JC := (4, sVer, .slice none 0 0, .slice none 0 0)
def cOne : JC := (3, sOne, .slice none 0 0, .slice none 0 0)
def cM : JC := (4, sM, .slice none 0 0, .slice none 0 0)
def tree6 : JT := .mk 6 ⟨#[]⟩ [kJson, kId, kMethod] [flatT cVer, flatT cOne, flatT cM]
def tree7 : JT := .mk 5 ⟨#[]⟩ [] [flatT cOne]
def val6 (q : Nat) : Option VR := if q = 11 then some (.ok cVer 16) else if q = 22 then some (.ok cOne 23) else if q = 33 then some (.ok cM 36) else none
def parts6 : List OP := [⟨1, 9, kJson, cVer, 16⟩, ⟨17, 20, kId, cOne, 23⟩, ⟨24, 31, kMethod, cM, 36⟩]
theorem plainR {T : List Nat} {a q : Nat} (h : ∀ j, j < q → a ≤ j → 32 ≤ nth T j ∧ nth T j ≠ 34 ∧ nth T j ≠ 92) : ∀ j, a ≤ j → j < q → 32 ≤ nth T j ∧ nth T j ≠ 34 ∧ nth T j ≠ 92 := fun j h1 h2 => h j h2 h1
theorem chain6 : Chain ex6 val6 1 true parts6 37 := by
  refine ⟨by kernel_rfl, by kernel_rfl, by decide, by decide, by kernel_rfl, plainR (by decide +kernel), by kernel_rfl, by decide +kernel, by kernel_rfl, by kernel_rfl, ?_⟩
  refine ⟨by kernel_rfl, by kernel_rfl, by decide, by decide, by kernel_rfl, plainR (by decide +kernel), by kernel_rfl, by decide +kernel, by kernel_rfl, by kernel_rfl, ?_⟩
  refine ⟨by kernel_rfl, by kernel_rfl, by decide, by decide, by kernel_rfl, plainR (by decide +kernel), by kernel_rfl, by decide +kernel, by kernel_rfl, by kernel_rfl, ?_⟩
  show endL ex6 125 36 false = .yes 37
  kernel_rfl
theorem hval6 (R d : Nat) (ao : Option Addr) (cap : Nat) : HVal val6 R d ao cap ex6 := by
  intro W q r h hq hr hT
  unfold val6 at h
  split at h
  · rename_i e
    subst e
    cases h
    have hb : blEnd ex6 11 = 11 := by decide +kernel
    have := value_str W R 11 d ao cap ex6 15 hr hT hq (by rw [hb]; decide) (by rw [hb]; kernel_rfl) (by rw [hb]; exact ⟨by decide, by decide, by kernel_rfl, plainR (by decide +kernel)⟩)
    rw [hb] at this
    exact this
  split at h
  · rename_i e
    subst e
    cases h
    exact value_num W R 22 d ao cap ex6 (.ok cOne 23) (by kernel_rfl) hr hT hq
  split at h
  · rename_i e
    subst e
    cases h
    have hb : blEnd ex6 33 = 33 := by decide +kernel
    have := value_str W R 33 d ao cap ex6 35 hr hT hq (by rw [hb]; decide) (by rw [hb]; kernel_rfl) (by rw [hb]; exact ⟨by decide, by decide, by kernel_rfl, plainR (by decide +kernel)⟩)
    rw [hb] at this
    exact this
  · cases h
theorem okv6 : OkV val6 ex6 := by
  intro q x p h
  unfold val6 at h
  split at h
  · rename_i e
    subst e
    cases h
    exact ⟨by decide, by decide, rfl, rfl⟩
  split at h
  · rename_i e
    subst e
    cases h
    exact ⟨by decide, by decide, rfl, rfl⟩
  split at h
  · rename_i e
    subst e
    cases h
    exact ⟨by decide, by decide, rfl, rfl⟩
  · cases h
theorem value6 (W : World) (R : Nat) (ao : Option Addr) (cap : Nat) (hr : RdJ W R (.slice ao ex6.length cap) 0 0) (hT : TxJ W R ao cap ex6) : Calls Tryz.prog 48 #[.pointer (some ⟨R, 0, none⟩)] W (TreeJ tree6 37 W R (.slice ao ex6.length cap) 0) := by
  have hb : blEnd ex6 0 = 0 := by decide +kernel
  refine value_obj W R 0 0 ao cap ex6 tree6 37 hr hT (Nat.zero_le _) (by rw [hb]; decide) (by rw [hb]; kernel_rfl) (by decide) (fun W' hr' hT' => ?_)
  rw [hb] at hr'
  refine (object_ok val6 W' R 1 1 ao cap ex6 parts6 37 [kJson, kId, kMethod] [cVer, cOne, cM] hr' hT' (by decide) (hval6 R 1 ao cap) okv6 rfl rfl chain6 (by decide +kernel)).mono ?_
  rintro e w' ⟨kv, lv, rfl, hk, hv, hat⟩
  exact ⟨_, rfl, own_tree 6 ⟨#[]⟩ (own_strs hk) hv (fun x hx => by
    simp only [List.mem_cons, List.not_mem_nil, or_false] at hx
    rcases hx with rfl | rfl | rfl <;> exact ⟨rfl, rfl⟩), hat⟩
theorem parse6 (w : World) (ao : Option Addr) (cap : Nat) (h : Byts w (.slice ao ex6.length cap) ex6) (hU : Utf8Tabs 0 1 w) (hcap : ex6.length ≤ cap) :
    Calls Tryz.prog 23 #[.slice ao ex6.length cap] w fun e w' => (∃ x : JC, e = .returned (.tuple #[vagg x, .int .i64 0, .int .i64 0]) ∧ TIn w' (fun b => w.heap.size ≤ b) x tree6) ∧ Below w.heap.size w w' :=
  parse_tree w ao cap ex6 37 tree6 37 h hU ex6_pos ex6_end ex6_rune (by decide) hcap (by decide) (fun W R hr hT => value6 W R ao cap hr hT) (by decide) (by decide +kernel)
theorem parse7 (w : World) (ao : Option Addr) (cap : Nat) (h : Byts w (.slice ao ex7.length cap) ex7) (hU : Utf8Tabs 0 1 w) (hcap : ex7.length ≤ cap) :
    Calls Tryz.prog 23 #[.slice ao ex7.length cap] w fun e w' => (∃ x : JC, e = .returned (.tuple #[vagg x, .int .i64 0, .int .i64 0]) ∧ TIn w' (fun b => w.heap.size ≤ b) x tree7) ∧ Below w.heap.size w w' := by
  refine (parse_calls w ao cap ex7 3 5 (.ok [cOne] 3) h hU ex7_pos ex7_end ex7_rune (by decide) hcap (by decide +kernel) (by decide +kernel) (by kernel_rfl) (fun M q e => by cases e; exact ⟨by decide +kernel, by decide⟩)).mono ?_
  rintro e w' ⟨⟨lv, rfl, ho, _⟩, hb⟩
  exact ⟨⟨_, rfl, own_tree 5 ⟨#[]⟩ (K := []) ⟨none, 0, rfl, fun j hj => by simp at hj⟩ ho (fun x hx => by
    simp only [List.mem_cons, List.not_mem_nil, or_false] at hx
    rw [hx]
    exact ⟨rfl, rfl⟩)⟩, hb⟩

end Go.Proofs.YtbdpmpepmjpadaaGreatDoor

namespace Go.Proofs.YtbdpmpepmjpadaaGreatDoor
set_option linter.unusedVariables false
set_option linter.unusedSimpArgs false
set_option maxRecDepth 100000
open Go Go.RowKit Go.Shelf Go.Lib

def EfnR (w : World) (ln ln' : Nat) (f : Nat → Bool) (e : Ending) (w' : World) : Prop := ∃ r, e = .returned (.bool r) ∧ (r = true ↔ ln = ln' ∧ ∀ i, i < ln → f i = true) ∧ Below w.heap.size w w'
set_option maxHeartbeats 8000000 in
theorem efn_any (w : World) (la la' : Option Addr) (ln ln' lc lc' : Nat) (xs ys : Nat → JC) (f : Nat → Bool)
    (hc : ∀ w2, Below w.heap.size w w2 → ∀ i, i < ln → ∃ b off, la = some ⟨b, off, none⟩ ∧ ∀ r, r < 4 → w2.cell? ⟨b, off + (i * 4 + r), none⟩ = (vcell (xs i))[r]?)
    (hc' : ∀ w2, Below w.heap.size w w2 → ∀ i, i < ln' → ∃ b off, la' = some ⟨b, off, none⟩ ∧ ∀ r, r < 4 → w2.cell? ⟨b, off + (i * 4 + r), none⟩ = (vcell (ys i))[r]?)
    (hsl : ∀ i, i < ln → IsSl (xs i).2.2.1 ∧ IsSl (xs i).2.2.2) (hsl' : ∀ i, i < ln' → IsSl (ys i).2.2.1 ∧ IsSl (ys i).2.2.2)
    (hf : ∀ i, i < ln → i < ln' → ∀ w2, Below w.heap.size w w2 → Calls Tryz.prog 53 #[vagg (xs i), vagg (ys i)] w2 fun e w' => e = .returned (.bool (f i)) ∧ Below w2.heap.size w2 w') (hl : ln ≤ 1000000) :
    Calls Tryz.prog 79 #[.slice la ln lc, .slice la' ln' lc', .func (.func 53) #[] #[]] w (EfnR w ln ln' f) := by
  have HC := hide hc
  have HC' := hide hc'
  have HSL := hide hsl
  have HSL' := hide hsl'
  have HF := hide hf
  have HH := hide hl
  clear hc hc' hsl hsl' hf hl
  by_cases hK : ln = ln'
  rotate_left
  · have d1 : ((ln : Int) != (ln' : Int)) = true := by simp; omega
    have HKK := hide hK
    clear hK
    go_enter Tryz.func79, Tryz.ntmps79
    go_wp2
    go_ret
    exact ⟨false, rfl, ⟨fun h => (by cases h), fun h => absurd h.1 HKK.out⟩, Below.refl _ _⟩
  subst hK
  go_enter Tryz.func79, Tryz.ntmps79
  go_wp2
  go_loopw [17] (fun iv wr => ∃ i : Nat, i ≤ ln ∧ iv = .int .i64 (i : Int) ∧ Below w.heap.size w wr ∧ ∀ q, q < i → f q = true) (fun iv _ => ln - (RowKit.intOf iv).toNat)
  case atStart => exact ⟨0, Nat.zero_le _, rfl, Below.refl _ _, fun q h => by omega⟩
  case round =>
    obtain ⟨i, hi, rfl, hB, hQ⟩ := hrel
    have HQ := hide hQ
    have HBR := hide hB
    clear hB hQ
    generalize wr = wo at *
    by_cases hlt : i < ln
    · obtain ⟨b, off, rfl, cx⟩ := HC.out wo HBR.out i hlt
      obtain ⟨b', off', rfl, cy⟩ := HC'.out wo HBR.out i hlt
      obtain ⟨hs2, hs3⟩ := HSL.out i hlt
      obtain ⟨hs4, hs5⟩ := HSL'.out i hlt
      have hcall := HF.out i hlt hlt
      generalize xs i = y at *
      obtain ⟨yk, ys', yK, yL⟩ := y
      generalize ys i = z at *
      obtain ⟨zk, zs, zK, zL⟩ := z
      simp only [vagg, vcell] at hcall cx cy hs2 hs3 hs4 hs5
      obtain ⟨pa, pn, pc, rfl⟩ := hs2
      obtain ⟨qa, qn, qc, rfl⟩ := hs3
      obtain ⟨pa', pn', pc', rfl⟩ := hs4
      obtain ⟨qa', qn', qc', rfl⟩ := hs5
      have x0 := cx 0 (by omega)
      have x1 := cx 1 (by omega)
      have x2 := cx 2 (by omega)
      have x3 := cx 3 (by omega)
      have y0 := cy 0 (by omega)
      have y1 := cy 1 (by omega)
      have y2 := cy 2 (by omega)
      have y3 := cy 3 (by omega)
      simp only [List.getElem?_cons_zero, List.getElem?_cons_succ, ← Nat.add_assoc, Nat.add_zero] at x0 x1 x2 x3 y0 y1 y2 y3
      obtain ⟨i1, hi1⟩ : ∃ i1, i + 1 = i1 := ⟨_, rfl⟩
      have e1 : (i : Int) + 1 = (i1 : Int) := by omega
      have g1 : (i1 : Int) ≤ 1000000000 := by have := HH.out; omega
      have d1 : (i : Int) < (ln : Int) := by omega
      have d0 : (0 : Int) ≤ (i : Int) := by omega
      have HI := hide (And.intro hlt hi1)
      have hb2 : Below w.heap.size w ((wo.alloc (.cells #[.int .i64 yk, .string ys', .slice pa pn pc, .slice qa qn qc] 27)).alloc (.cells #[.int .i64 zk, .string zs, .slice pa' pn' pc', .slice qa' qn' qc'] 27)) := HBR.out.trans (((bel wo _).alloc (by simp) _).mono HBR.out.size)
      have hcall2 := hcall _ hb2
      have HB2 := hide hb2
      have ly := block_lt (show wo.cell? ⟨b', off' + i * 4, none⟩ = some _ from y0)
      obtain ⟨r, hr⟩ : ∃ r, f i = r := ⟨_, rfl⟩
      rw [hr] at hcall2
      have HR := hide hr
      clear hcall hlt hi1 hi cx cy hb2 hr
      go_wp2_with fail
      refine hcall2.mono ?_
      rintro e w3 ⟨rfl, hb3⟩
      have HB3 := hide (HB2.out.trans (hb3.mono HB2.out.size))
      clear hcall2 hb3
      cases r
      · go_wp2
        go_ret
        refine ⟨false, rfl, ⟨fun h => (by cases h), fun h => ?_⟩, HB3.out⟩
        have := h.2 i HI.out.1
        rw [HR.out] at this
        cases this
      · go_wp2
        go_roundw
        case rel =>
          refine ⟨i1, by have := HI.out; omega, by first | rfl | go_num, HB3.out, fun q hq => ?_⟩
          rcases Nat.lt_or_ge q i with h | h
          · exact HQ.out q h
          · obtain rfl : q = i := by have := HI.out; omega
            exact HR.out
        case measure => have := HI.out; simp [RowKit.intOf]; omega
    · obtain rfl : i = ln := by omega
      have d5 : ¬ (i : Int) < (i : Int) := by omega
      clear hlt hi
      go_wp2
      go_ret
      exact ⟨true, rfl, ⟨fun _ => ⟨rfl, fun q h => HQ.out q h⟩, fun _ => rfl⟩, HBR.out⟩

end Go.Proofs.YtbdpmpepmjpadaaGreatDoor

namespace Go.Proofs.YtbdpmpepmjpadaaGreatDoor
set_option linter.unusedVariables false
set_option linter.unusedSimpArgs false
set_option maxRecDepth 100000
open Go Go.RowKit Go.Shelf Go.Lib

def fP (L L' : List JT) (i : Nat) : Bool := match L[i]?, L'[i]? with | some a, some b => eqJ a b | _, _ => false
theorem fP_all {L L' : List JT} : (L.length = L'.length ∧ ∀ i, i < L.length → fP L L' i = true) ↔ eqJs L L' = true := by
  rw [eqJs_iff]
  constructor
  · rintro ⟨h1, h2⟩
    refine ⟨h1, fun i a b ha hb => ?_⟩
    have := h2 i (List.getElem?_eq_some_iff.1 ha).1
    simpa [fP, ha, hb] using this
  · rintro ⟨h1, h2⟩
    refine ⟨h1, fun i hi => ?_⟩
    have ha : L[i]? = some L[i] := List.getElem?_eq_getElem hi
    have hb : L'[i]? = some (L'[i]'(by omega)) := List.getElem?_eq_getElem (by omega)
    simp only [fP, ha, hb]
    exact h2 i _ _ ha hb

set_option maxHeartbeats 16000000 in
theorem equal_any {W : World} {S : Nat → Prop} {x : JC} {T : JT} (h : TIn W S x T) (hl : LtT T) : ∀ {S' : Nat → Prop} {y : JC} {T' : JT}, TIn W S' y T' → LtT T' → ∀ (w : World), Below W.heap.size W w → Calls Tryz.prog 53 #[vagg x, vagg y] w (REqR w T T') := by
  induction h with
  | mk k s kv la lc K L xs hK hc hsl ht ih =>
    intro S' y T' hy hl' w hW
    cases hy with
    | mk k' s' kv' la' lc' K' L' ys hK' hc' hsl' ht' =>
    obtain ⟨_, _, _, _, hKl, hLl, hsz, hll⟩ := hl
    obtain ⟨_, _, _, _, hKl', hLl', hsz', hll'⟩ := hl'
    obtain ⟨ka, kc, rfl, hKc⟩ := hK
    obtain ⟨ka', kc', rfl, hKc'⟩ := hK'
    obtain ⟨a1, c1, a2, c2, hpx, hk1, hp1⟩ := plain_parts (la := la) (lc := lc) (L := L) k s (show StrsS W S (.slice ka K.length kc) K from ⟨ka, kc, rfl, hKc⟩)
    obtain ⟨a1', c1', a2', c2', hpy, hk1', hp1'⟩ := plain_parts (la := la') (lc := lc') (L := L') k' s' (show StrsS W S' (.slice ka' K'.length kc') K' from ⟨ka', kc', rfl, hKc'⟩)
    have HIH : Hid (∀ i (hi : i < L.length) (hi' : i < L'.length) w2, Below w.heap.size w w2 → Calls Tryz.prog 53 #[vagg (xs i), vagg (ys i)] w2 (REqR w2 L[i] L'[i])) := fun i hi hi' w2 h2 => ih i hi (hll i hi) (ht' i hi') (hll' i hi') w2 (hW.trans (h2.mono hW.size))
    have HLC : Hid (∀ w2, Below w.heap.size w w2 → ∀ i, i < (lP k L).length → ∃ b off, a2 = some ⟨b, off, none⟩ ∧ ∀ r, r < 4 → w2.cell? ⟨b, off + (i * 4 + r), none⟩ = (vcell (xs i))[r]?) := fun w2 h2 i hi => by
      obtain ⟨b, off, e, _, hx⟩ := hc i (hp1 i hi).1
      refine ⟨b, off, (hp1 i hi).2.2.trans e, fun r hr => ?_⟩
      have h0 := hx 0 (by omega)
      simp only [vcell, List.getElem?_cons_zero] at h0
      exact ((hW.trans (h2.mono hW.size)).cell (p := ⟨b, off + (i * 4 + r), none⟩) (block_lt h0)).trans (hx r hr)
    have HSL : Hid (∀ i, i < (lP k L).length → IsSl (xs i).2.2.1 ∧ IsSl (xs i).2.2.2) := fun i hi => hsl i (hp1 i hi).1
    have HLC' : Hid (∀ w2, Below w.heap.size w w2 → ∀ i, i < (lP k' L').length → ∃ b off, a2' = some ⟨b, off, none⟩ ∧ ∀ r, r < 4 → w2.cell? ⟨b, off + (i * 4 + r), none⟩ = (vcell (ys i))[r]?) := fun w2 h2 i hi => by
      obtain ⟨b, off, e, _, hx⟩ := hc' i (hp1' i hi).1
      refine ⟨b, off, (hp1' i hi).2.2.trans e, fun r hr => ?_⟩
      have h0 := hx 0 (by omega)
      simp only [vcell, List.getElem?_cons_zero] at h0
      exact ((hW.trans (h2.mono hW.size)).cell (p := ⟨b, off + (i * 4 + r), none⟩) (block_lt h0)).trans (hx r hr)
    have HSL' : Hid (∀ i, i < (lP k' L').length → IsSl (ys i).2.2.1 ∧ IsSl (ys i).2.2.2) := fun i hi => hsl' i (hp1' i hi).1
    have HF : Hid (∀ i, i < (lP k L).length → i < (lP k' L').length → ∀ w2, Below w.heap.size w w2 → Calls Tryz.prog 53 #[vagg (xs i), vagg (ys i)] w2 fun e w' => e = .returned (.bool (fP (lP k L) (lP k' L') i)) ∧ Below w2.heap.size w2 w') := fun i hi hi' w2 h2 => by
      obtain ⟨g1, g2, _⟩ := hp1 i hi
      obtain ⟨g1', g2', _⟩ := hp1' i hi'
      refine (HIH.out i g1 g1' w2 h2).mono fun e w3 h3 => ⟨?_, h3.2⟩
      rw [h3.1, g2, g2']
      simp only [fP, List.getElem?_eq_getElem g1, List.getElem?_eq_getElem g1']
    have HSEQ : Hid (∀ w2, Below w.heap.size w w2 → Calls Tryz.prog 78 #[.slice a1 (kP k K).length c1, .slice a1' (kP k' K').length c1'] w2 (SeqR w2 (kP k K) (kP k' K'))) := fun w2 h2 => seq_any hk1 hk1' (Nat.le_trans (show (kP k K).length ≤ K.length by unfold kP; split <;> simp) (by omega)) w2 (hW.trans (h2.mono hW.size))
    have HLL : Hid ((lP k L).length ≤ 1000000) := by
      show _ ≤ _
      unfold lP
      split
      · omega
      · simp
    have HEFN : Hid (∀ w2, Below w.heap.size w w2 → Calls Tryz.prog 79 #[.slice a2 (lP k L).length c2, .slice a2' (lP k' L').length c2', .func (.func 53) #[] #[]] w2 (EfnR w2 (lP k L).length (lP k' L').length (fP (lP k L) (lP k' L')))) := fun w2 h2 => efn_any w2 a2 a2' _ _ c2 c2' xs ys _ (fun w3 h3 => HLC.out w3 (h2.trans (h3.mono h2.size))) (fun w3 h3 => HLC'.out w3 (h2.trans (h3.mono h2.size))) HSL.out HSL'.out (fun i hi hi' w3 h3 => HF.out i hi hi' w3 (h2.trans (h3.mono h2.size))) HLL.out
    have HEQ : Hid (eqJ (.mk k s K L) (.mk k' s' K' L') = true ↔ k = k' ∧ sP k s = sP k' s' ∧ kP k K = kP k' K' ∧ (lP k L).length = (lP k' L').length ∧ ∀ i, i < (lP k L).length → fP (lP k L) (lP k' L') i = true) := by show _ ↔ _; rw [eqJ_by, fP_all]
    obtain ⟨kn, hkn⟩ : ∃ kn, K.length = kn := ⟨_, rfl⟩
    obtain ⟨ln, hln⟩ : ∃ ln, L.length = ln := ⟨_, rfl⟩
    obtain ⟨kn', hkn'⟩ : ∃ kn, K'.length = kn := ⟨_, rfl⟩
    obtain ⟨ln', hln'⟩ : ∃ ln, L'.length = ln := ⟨_, rfl⟩
    obtain ⟨R, hR⟩ : ∃ R, eqJ (.mk k s K L) (.mk k' s' K' L') = R := ⟨_, rfl⟩
    unfold REqR
    rw [hR] at HEQ ⊢
    rw [hkn, hln] at hpx
    rw [hkn', hln'] at hpy
    unfold vagg
    simp only
    rw [hkn, hln, hkn', hln']
    clear HIH HLC HLC' HSL HSL' HF HLL ih ht ht' hc hc' hsl hsl' hKc hKc' hll hll' hKl hKl' hLl hLl' hsz hsz' hkn hln hkn' hln' hk1 hk1' hp1 hp1' hR hW
    generalize sP k s = s1 at *
    generalize sP k' s' = s1' at *
    generalize kP k K = K1 at *
    generalize kP k' K' = K1' at *
    generalize lP k L = L1 at *
    generalize lP k' L' = L1' at *
    generalize fP L1 L1' = f at *
    generalize K1.length = n1 at *
    generalize K1'.length = n1' at *
    generalize L1.length = n2 at *
    generalize L1'.length = n2' at *
    have HCX : Hid (∀ W2, Calls Tryz.prog 72 #[.agg #[.int .i64 k, .string s, .slice ka kn kc, .slice la ln lc]] W2 fun e w' => e = .returned (.agg #[.int .i64 k, .string s1, .slice a1 n1 c1, .slice a2 n2 c2]) ∧ Below W2.heap.size W2 w') := fun W2 => (plain_any W2 k s ka la kn kc ln lc).mono fun e w' h => ⟨by rw [h.1, hpx]; rfl, h.2⟩
    have HCY : Hid (∀ W2, Calls Tryz.prog 72 #[.agg #[.int .i64 k', .string s', .slice ka' kn' kc', .slice la' ln' lc']] W2 fun e w' => e = .returned (.agg #[.int .i64 k', .string s1', .slice a1' n1' c1', .slice a2' n2' c2']) ∧ Below W2.heap.size W2 w') := fun W2 => (plain_any W2 k' s' ka' la' kn' kc' ln' lc').mono fun e w' h => ⟨by rw [h.1, hpy]; rfl, h.2⟩
    clear hpx hpy
    have hb : Below w.heap.size w ((w.alloc (.cells #[.int .i64 k, .string s, .slice ka kn kc, .slice la ln lc] 27)).alloc (.cells #[.int .i64 k', .string s', .slice ka' kn' kc', .slice la' ln' lc'] 27)) := (bel w _).alloc (by simp) _
    have hp := (BoxC.new w 27 #[.int .i64 k, .string s, .slice ka kn kc, .slice la ln lc]).alloc (.cells #[.int .i64 k', .string s', .slice ka' kn' kc', .slice la' ln' lc'] 27)
    have hq := BoxC.new (w.alloc (.cells #[.int .i64 k, .string s, .slice ka kn kc, .slice la ln lc] 27)) 27 #[.int .i64 k', .string s', .slice ka' kn' kc', .slice la' ln' lc']
    rw [World.size_alloc] at hq
    generalize hw0 : (w.alloc (.cells #[.int .i64 k, .string s, .slice ka kn kc, .slice la ln lc] 27)).alloc (.cells #[.int .i64 k', .string s', .slice ka' kn' kc', .slice la' ln' lc'] 27) = w0 at *
    have HW0 := hide hw0
    have HPD : Hid (BoxC w0.drew w.heap.size 27 #[.int .i64 k, .string s, .slice ka kn kc, .slice la ln lc]) := hp
    have HQD : Hid (BoxC w0.drew (w.heap.size + 1) 27 #[.int .i64 k', .string s', .slice ka' kn' kc', .slice la' ln' lc']) := hq
    have HBD : Hid (Below w.heap.size w w0.drew) := hb.drew
    have HS : Hid (∀ X0 : World, BoxC X0 w.heap.size 27 #[.int .i64 k, .string s, .slice ka kn kc, .slice la ln lc] → BoxC X0 (w.heap.size + 1) 27 #[.int .i64 k', .string s', .slice ka' kn' kc', .slice la' ln' lc'] → (X0.cell? ⟨w.heap.size, 0, none⟩ = some (.int .i64 k) ∧ X0.cell? ⟨w.heap.size, 1, none⟩ = some (.string s) ∧ X0.cell? ⟨w.heap.size, 2, none⟩ = some (.slice ka kn kc) ∧ X0.cell? ⟨w.heap.size, 3, none⟩ = some (.slice la ln lc) ∧ X0.cell? ⟨w.heap.size + 1, 0, none⟩ = some (.int .i64 k') ∧ X0.cell? ⟨w.heap.size + 1, 1, none⟩ = some (.string s') ∧ X0.cell? ⟨w.heap.size + 1, 2, none⟩ = some (.slice ka' kn' kc') ∧ X0.cell? ⟨w.heap.size + 1, 3, none⟩ = some (.slice la' ln' lc'))) := fun X0 h k => ⟨h.cell 0, h.cell 1, h.cell 2, h.cell 3, k.cell 0, k.cell 1, k.cell 2, k.cell 3⟩
    clear hw0 hp hq hb
    go_enter Tryz.func53, Tryz.ntmps53
    go_upto_region 1 with fail
    rw [HW0.out]
    clear HW0
    refine wp_region_held_drew (S := fun X0 : World => True) (by kernel_rfl) trivial (fun hHeld => ?_)
    generalize w0.drew = wd at *
    refine wpAnyH_ready (rs := [0, 2]) (by kernel_rfl) (by simp) ?_
    refine AllReadyH.cons rfl (fun K9 hK => ?_) (AllReadyH.cons rfl (fun K9 hK => ?_) AllReadyH.nil)
    · have pf0 := HPD.out.frozen 0
      have pc0 : wd.cell? ⟨w.heap.size, 0, none⟩ = some (.int .i64 k) := HPD.out.cell 0
      have pf1 := HPD.out.frozen 1
      have pc1 : wd.cell? ⟨w.heap.size, 1, none⟩ = some (.string s) := HPD.out.cell 1
      have pf2 := HPD.out.frozen 2
      have pc2 : wd.cell? ⟨w.heap.size, 2, none⟩ = some (.slice ka kn kc) := HPD.out.cell 2
      have pf3 := HPD.out.frozen 3
      have pc3 : wd.cell? ⟨w.heap.size, 3, none⟩ = some (.slice la ln lc) := HPD.out.cell 3
      have pl := HPD.out.lt
      have qf0 := HQD.out.frozen 0
      have qc0 : wd.cell? ⟨w.heap.size + 1, 0, none⟩ = some (.int .i64 k') := HQD.out.cell 0
      have qf1 := HQD.out.frozen 1
      have qc1 : wd.cell? ⟨w.heap.size + 1, 1, none⟩ = some (.string s') := HQD.out.cell 1
      have qf2 := HQD.out.frozen 2
      have qc2 : wd.cell? ⟨w.heap.size + 1, 2, none⟩ = some (.slice ka' kn' kc') := HQD.out.cell 2
      have qf3 := HQD.out.frozen 3
      have qc3 : wd.cell? ⟨w.heap.size + 1, 3, none⟩ = some (.slice la' ln' lc') := HQD.out.cell 3
      have ql := HQD.out.lt
      go_simp
      refine hK.out _ _ trivial (fun _ => ?_)
      clear hK K9
      clear pf0 pf1 pf2 pf3 pc0 pc1 pc2 pc3 qf0 qf1 qf2 qf3 qc0 qc1 qc2 qc3 pl ql
      try simp only [Act.put, List.setIfInBounds_toArray, List.set_cons_zero, List.set_cons_succ, vagg]
      refine wpAnyH_ready (rs := [1, 2]) (by kernel_rfl) (by simp) ?_
      refine AllReadyH.cons rfl (fun K9 hK => ?_) (AllReadyH.cons rfl (fun K9 hK => ?_) AllReadyH.nil)
      · go_simp
        refine (HCX.out _).mono ?_
        rintro e w1 ⟨rfl, hB9⟩
        have HP1 := hide (HPD.out.below hB9)
        have HQ1 := hide (HQD.out.below hB9)
        have HB1 := hide (HBD.out.trans (hB9.mono HBD.out.size))
        refine hK.out _ _ trivial (fun _ => ?_)
        clear hK K9 hB9
        try simp only [Act.put, List.setIfInBounds_toArray, List.set_cons_zero, List.set_cons_succ, vagg]
        refine wpAnyH_ready (rs := [2]) (by kernel_rfl) (by simp) ?_
        refine AllReadyH.cons rfl (fun K9 hK => ?_) AllReadyH.nil
        have pf0 := HP1.out.frozen 0
        have pc0 : w1.cell? ⟨w.heap.size, 0, none⟩ = some (.int .i64 k) := HP1.out.cell 0
        have pf1 := HP1.out.frozen 1
        have pc1 : w1.cell? ⟨w.heap.size, 1, none⟩ = some (.string s) := HP1.out.cell 1
        have pf2 := HP1.out.frozen 2
        have pc2 : w1.cell? ⟨w.heap.size, 2, none⟩ = some (.slice ka kn kc) := HP1.out.cell 2
        have pf3 := HP1.out.frozen 3
        have pc3 : w1.cell? ⟨w.heap.size, 3, none⟩ = some (.slice la ln lc) := HP1.out.cell 3
        have pl := HP1.out.lt
        have qf0 := HQ1.out.frozen 0
        have qc0 : w1.cell? ⟨w.heap.size + 1, 0, none⟩ = some (.int .i64 k') := HQ1.out.cell 0
        have qf1 := HQ1.out.frozen 1
        have qc1 : w1.cell? ⟨w.heap.size + 1, 1, none⟩ = some (.string s') := HQ1.out.cell 1
        have qf2 := HQ1.out.frozen 2
        have qc2 : w1.cell? ⟨w.heap.size + 1, 2, none⟩ = some (.slice ka' kn' kc') := HQ1.out.cell 2
        have qf3 := HQ1.out.frozen 3
        have qc3 : w1.cell? ⟨w.heap.size + 1, 3, none⟩ = some (.slice la' ln' lc') := HQ1.out.cell 3
        have ql := HQ1.out.lt
        go_simp
        refine hK.out _ _ trivial (fun _ => ?_)
        clear hK K9
        clear pf0 pf1 pf2 pf3 pc0 pc1 pc2 pc3 qf0 qf1 qf2 qf3 qc0 qc1 qc2 qc3 pl ql
        try simp only [Act.put, List.setIfInBounds_toArray, List.set_cons_zero, List.set_cons_succ, vagg]
        refine wpAnyH_ready (rs := [3]) (by kernel_rfl) (by simp) ?_
        refine AllReadyH.cons rfl (fun K9 hK => ?_) AllReadyH.nil
        go_simp
        refine (HCY.out _).mono ?_
        rintro e w2 ⟨rfl, hB9⟩
        have HP2 := hide (HP1.out.below hB9)
        have HQ2 := hide (HQ1.out.below hB9)
        have HB2 := hide (HB1.out.trans (hB9.mono HB1.out.size))
        refine hK.out _ _ trivial (fun _ => ?_)
        clear hK K9 hB9
        try simp only [Act.put, List.setIfInBounds_toArray, List.set_cons_zero, List.set_cons_succ, vagg]
        refine wpAnyH_ready (rs := [4]) (by kernel_rfl) (by simp) ?_
        refine AllReadyH.cons rfl (fun K9 hK => ?_) AllReadyH.nil
        have pf0 := HP2.out.frozen 0
        have pc0 : w2.cell? ⟨w.heap.size, 0, none⟩ = some (.int .i64 k) := HP2.out.cell 0
        have pf1 := HP2.out.frozen 1
        have pc1 : w2.cell? ⟨w.heap.size, 1, none⟩ = some (.string s) := HP2.out.cell 1
        have pf2 := HP2.out.frozen 2
        have pc2 : w2.cell? ⟨w.heap.size, 2, none⟩ = some (.slice ka kn kc) := HP2.out.cell 2
        have pf3 := HP2.out.frozen 3
        have pc3 : w2.cell? ⟨w.heap.size, 3, none⟩ = some (.slice la ln lc) := HP2.out.cell 3
        have pl := HP2.out.lt
        have qf0 := HQ2.out.frozen 0
        have qc0 : w2.cell? ⟨w.heap.size + 1, 0, none⟩ = some (.int .i64 k') := HQ2.out.cell 0
        have qf1 := HQ2.out.frozen 1
        have qc1 : w2.cell? ⟨w.heap.size + 1, 1, none⟩ = some (.string s') := HQ2.out.cell 1
        have qf2 := HQ2.out.frozen 2
        have qc2 : w2.cell? ⟨w.heap.size + 1, 2, none⟩ = some (.slice ka' kn' kc') := HQ2.out.cell 2
        have qf3 := HQ2.out.frozen 3
        have qc3 : w2.cell? ⟨w.heap.size + 1, 3, none⟩ = some (.slice la' ln' lc') := HQ2.out.cell 3
        have ql := HQ2.out.lt
        go_simp
        have HP3 := hide (resJ_v HP2.out (.int .i64 k) (.string s1) (.slice a1 n1 c1) (.slice a2 n2 c2))
        have HQ3 := hide (box_off4 HQ2.out (show w.heap.size + 1 ≠ w.heap.size by omega) (.int .i64 k) (.string s1) (.slice a1 n1 c1) (.slice a2 n2 c2))
        have HB3 := hide (below4 HB2.out (Nat.le_refl _) (.int .i64 k) (.string s1) (.slice a1 n1 c1) (.slice a2 n2 c2))
        refine hK.out _ _ trivial (fun _ => ?_)
        clear hK K9
        try simp only [Act.put, List.setIfInBounds_toArray, List.set_cons_zero, List.set_cons_succ, vagg]
        generalize ((((w2.setCell ⟨w.heap.size, 0, none⟩ (.int .i64 k)).setCell ⟨w.heap.size, 1, none⟩ (.string s1)).setCell ⟨w.heap.size, 2, none⟩ (.slice a1 n1 c1)).setCell ⟨w.heap.size, 3, none⟩ (.slice a2 n2 c2)) = w3 at *
        clear pf0 pf1 pf2 pf3 pc0 pc1 pc2 pc3 qf0 qf1 qf2 qf3 qc0 qc1 qc2 qc3 pl ql
        refine wpAnyH_ready (rs := [5]) (by kernel_rfl) (by simp) ?_
        refine AllReadyH.cons rfl (fun K9 hK => ?_) AllReadyH.nil
        have pf0 := HP3.out.frozen 0
        have pc0 : w3.cell? ⟨w.heap.size, 0, none⟩ = some (.int .i64 k) := HP3.out.cell 0
        have pf1 := HP3.out.frozen 1
        have pc1 : w3.cell? ⟨w.heap.size, 1, none⟩ = some (.string s1) := HP3.out.cell 1
        have pf2 := HP3.out.frozen 2
        have pc2 : w3.cell? ⟨w.heap.size, 2, none⟩ = some (.slice a1 n1 c1) := HP3.out.cell 2
        have pf3 := HP3.out.frozen 3
        have pc3 : w3.cell? ⟨w.heap.size, 3, none⟩ = some (.slice a2 n2 c2) := HP3.out.cell 3
        have pl := HP3.out.lt
        have qf0 := HQ3.out.frozen 0
        have qc0 : w3.cell? ⟨w.heap.size + 1, 0, none⟩ = some (.int .i64 k') := HQ3.out.cell 0
        have qf1 := HQ3.out.frozen 1
        have qc1 : w3.cell? ⟨w.heap.size + 1, 1, none⟩ = some (.string s') := HQ3.out.cell 1
        have qf2 := HQ3.out.frozen 2
        have qc2 : w3.cell? ⟨w.heap.size + 1, 2, none⟩ = some (.slice ka' kn' kc') := HQ3.out.cell 2
        have qf3 := HQ3.out.frozen 3
        have qc3 : w3.cell? ⟨w.heap.size + 1, 3, none⟩ = some (.slice la' ln' lc') := HQ3.out.cell 3
        have ql := HQ3.out.lt
        go_simp
        have HQ4 := hide (resJ_v HQ3.out (.int .i64 k') (.string s1') (.slice a1' n1' c1') (.slice a2' n2' c2'))
        have HP4 := hide (box_off4 HP3.out (show w.heap.size ≠ w.heap.size + 1 by omega) (.int .i64 k') (.string s1') (.slice a1' n1' c1') (.slice a2' n2' c2'))
        have HB4 := hide (below4 HB3.out (Nat.le_succ _) (.int .i64 k') (.string s1') (.slice a1' n1' c1') (.slice a2' n2' c2'))
        refine hK.out _ _ trivial (fun _ => ?_)
        clear hK K9
        try simp only [Act.put, List.setIfInBounds_toArray, List.set_cons_zero, List.set_cons_succ, vagg]
        generalize ((((w3.setCell ⟨w.heap.size + 1, 0, none⟩ (.int .i64 k')).setCell ⟨w.heap.size + 1, 1, none⟩ (.string s1')).setCell ⟨w.heap.size + 1, 2, none⟩ (.slice a1' n1' c1')).setCell ⟨w.heap.size + 1, 3, none⟩ (.slice a2' n2' c2')) = w4 at *
        clear pf0 pf1 pf2 pf3 pc0 pc1 pc2 pc3 qf0 qf1 qf2 qf3 qc0 qc1 qc2 qc3 pl ql
        refine wpAnyH_done (by kernel_rfl) ?_ _
        have pf0 := HP4.out.frozen 0
        have pc0 : w4.cell? ⟨w.heap.size, 0, none⟩ = some (.int .i64 k) := HP4.out.cell 0
        have pf1 := HP4.out.frozen 1
        have pc1 : w4.cell? ⟨w.heap.size, 1, none⟩ = some (.string s1) := HP4.out.cell 1
        have pf2 := HP4.out.frozen 2
        have pc2 : w4.cell? ⟨w.heap.size, 2, none⟩ = some (.slice a1 n1 c1) := HP4.out.cell 2
        have pf3 := HP4.out.frozen 3
        have pc3 : w4.cell? ⟨w.heap.size, 3, none⟩ = some (.slice a2 n2 c2) := HP4.out.cell 3
        have pl := HP4.out.lt
        have qf0 := HQ4.out.frozen 0
        have qc0 : w4.cell? ⟨w.heap.size + 1, 0, none⟩ = some (.int .i64 k') := HQ4.out.cell 0
        have qf1 := HQ4.out.frozen 1
        have qc1 : w4.cell? ⟨w.heap.size + 1, 1, none⟩ = some (.string s1') := HQ4.out.cell 1
        have qf2 := HQ4.out.frozen 2
        have qc2 : w4.cell? ⟨w.heap.size + 1, 2, none⟩ = some (.slice a1' n1' c1') := HQ4.out.cell 2
        have qf3 := HQ4.out.frozen 3
        have qc3 : w4.cell? ⟨w.heap.size + 1, 3, none⟩ = some (.slice a2' n2' c2') := HQ4.out.cell 3
        have ql := HQ4.out.lt
        by_cases hk : k = k'
        rotate_left
        · have d1 : (k == k') = false := by simpa using hk
          have HKK := hide hk
          clear hk
          go_wp2
          go_ret
          refine ⟨?_, HB4.out⟩
          have hR : R = false := Bool.eq_false_iff.2 (fun h => HKK.out ((HEQ.out.1 h).1))
          rw [hR]
          rfl
        subst hk
        by_cases hs : s1 = s1'
        rotate_left
        · have d1 : (s1.toList == s1'.toList) = false := str_ne hs
          have HKK := hide hs
          clear hs
          go_wp2
          go_ret
          refine ⟨?_, HB4.out⟩
          have hR : R = false := Bool.eq_false_iff.2 (fun h => HKK.out ((HEQ.out.1 h).2.1))
          rw [hR]
          rfl
        subst hs
        have hse : (s1.toList == s1.toList) = true := by simp
        go_wp2_with fail
        refine (HSEQ.out w4 HB4.out).mono ?_
        rintro e w5 ⟨rfl, hb5⟩
        have HP5 := hide (HP4.out.below hb5)
        have HQ5 := hide (HQ4.out.below hb5)
        have HB5 := hide (HB4.out.trans (hb5.mono HB4.out.size))
        clear hb5
        clear pf0 pf1 pf2 pf3 pc0 pc1 pc2 pc3 qf0 qf1 qf2 qf3 qc0 qc1 qc2 qc3 pl ql
        have pf0 := HP5.out.frozen 0
        have pc0 : w5.cell? ⟨w.heap.size, 0, none⟩ = some (.int .i64 k) := HP5.out.cell 0
        have pf1 := HP5.out.frozen 1
        have pc1 : w5.cell? ⟨w.heap.size, 1, none⟩ = some (.string s1) := HP5.out.cell 1
        have pf2 := HP5.out.frozen 2
        have pc2 : w5.cell? ⟨w.heap.size, 2, none⟩ = some (.slice a1 n1 c1) := HP5.out.cell 2
        have pf3 := HP5.out.frozen 3
        have pc3 : w5.cell? ⟨w.heap.size, 3, none⟩ = some (.slice a2 n2 c2) := HP5.out.cell 3
        have pl := HP5.out.lt
        have qf0 := HQ5.out.frozen 0
        have qc0 : w5.cell? ⟨w.heap.size + 1, 0, none⟩ = some (.int .i64 k) := HQ5.out.cell 0
        have qf1 := HQ5.out.frozen 1
        have qc1 : w5.cell? ⟨w.heap.size + 1, 1, none⟩ = some (.string s1) := HQ5.out.cell 1
        have qf2 := HQ5.out.frozen 2
        have qc2 : w5.cell? ⟨w.heap.size + 1, 2, none⟩ = some (.slice a1' n1' c1') := HQ5.out.cell 2
        have qf3 := HQ5.out.frozen 3
        have qc3 : w5.cell? ⟨w.heap.size + 1, 3, none⟩ = some (.slice a2' n2' c2') := HQ5.out.cell 3
        have ql := HQ5.out.lt
        by_cases hKK : K1 = K1'
        rotate_left
        · rw [decide_eq_false hKK]
          have HKK := hide hKK
          clear hKK
          go_wp2
          go_ret
          refine ⟨?_, HB5.out⟩
          have hR : R = false := Bool.eq_false_iff.2 (fun h => HKK.out ((HEQ.out.1 h).2.2.1))
          rw [hR]
          rfl
        rw [decide_eq_true hKK]
        have HKK := hide hKK
        clear hKK
        go_wp2_with fail
        refine (HEFN.out w5 HB5.out).mono ?_
        rintro e w6 ⟨r, rfl, hr, hb6⟩
        have HB6 := hide (HB5.out.trans (hb6.mono HB5.out.size))
        have HRR := hide hr
        clear hb6 hr
        clear pf0 pf1 pf2 pf3 pc0 pc1 pc2 pc3 qf0 qf1 qf2 qf3 qc0 qc1 qc2 qc3 pl ql
        go_wp2
        go_ret
        refine ⟨?_, HB6.out⟩
        have hR : R = r := Bool.eq_iff_iff.2 ⟨fun h => HRR.out.2 (HEQ.out.1 h).2.2.2, fun h => HEQ.out.2 ⟨trivial, trivial, HKK.out, HRR.out.1 h⟩⟩
        rw [hR]
        rfl
      · have pf0 := HPD.out.frozen 0
        have pc0 : wd.cell? ⟨w.heap.size, 0, none⟩ = some (.int .i64 k) := HPD.out.cell 0
        have pf1 := HPD.out.frozen 1
        have pc1 : wd.cell? ⟨w.heap.size, 1, none⟩ = some (.string s) := HPD.out.cell 1
        have pf2 := HPD.out.frozen 2
        have pc2 : wd.cell? ⟨w.heap.size, 2, none⟩ = some (.slice ka kn kc) := HPD.out.cell 2
        have pf3 := HPD.out.frozen 3
        have pc3 : wd.cell? ⟨w.heap.size, 3, none⟩ = some (.slice la ln lc) := HPD.out.cell 3
        have pl := HPD.out.lt
        have qf0 := HQD.out.frozen 0
        have qc0 : wd.cell? ⟨w.heap.size + 1, 0, none⟩ = some (.int .i64 k') := HQD.out.cell 0
        have qf1 := HQD.out.frozen 1
        have qc1 : wd.cell? ⟨w.heap.size + 1, 1, none⟩ = some (.string s') := HQD.out.cell 1
        have qf2 := HQD.out.frozen 2
        have qc2 : wd.cell? ⟨w.heap.size + 1, 2, none⟩ = some (.slice ka' kn' kc') := HQD.out.cell 2
        have qf3 := HQD.out.frozen 3
        have qc3 : wd.cell? ⟨w.heap.size + 1, 3, none⟩ = some (.slice la' ln' lc') := HQD.out.cell 3
        have ql := HQD.out.lt
        go_simp
        refine hK.out _ _ trivial (fun _ => ?_)
        clear hK K9
        clear pf0 pf1 pf2 pf3 pc0 pc1 pc2 pc3 qf0 qf1 qf2 qf3 qc0 qc1 qc2 qc3 pl ql
        try simp only [Act.put, List.setIfInBounds_toArray, List.set_cons_zero, List.set_cons_succ, vagg]
        refine wpAnyH_ready (rs := [1]) (by kernel_rfl) (by simp) ?_
        refine AllReadyH.cons rfl (fun K9 hK => ?_) AllReadyH.nil
        go_simp
        refine (HCX.out _).mono ?_
        rintro e w1 ⟨rfl, hB9⟩
        have HP1 := hide (HPD.out.below hB9)
        have HQ1 := hide (HQD.out.below hB9)
        have HB1 := hide (HBD.out.trans (hB9.mono HBD.out.size))
        refine hK.out _ _ trivial (fun _ => ?_)
        clear hK K9 hB9
        try simp only [Act.put, List.setIfInBounds_toArray, List.set_cons_zero, List.set_cons_succ, vagg]
        refine wpAnyH_ready (rs := [3]) (by kernel_rfl) (by simp) ?_
        refine AllReadyH.cons rfl (fun K9 hK => ?_) AllReadyH.nil
        go_simp
        refine (HCY.out _).mono ?_
        rintro e w2 ⟨rfl, hB9⟩
        have HP2 := hide (HP1.out.below hB9)
        have HQ2 := hide (HQ1.out.below hB9)
        have HB2 := hide (HB1.out.trans (hB9.mono HB1.out.size))
        refine hK.out _ _ trivial (fun _ => ?_)
        clear hK K9 hB9
        try simp only [Act.put, List.setIfInBounds_toArray, List.set_cons_zero, List.set_cons_succ, vagg]
        refine wpAnyH_ready (rs := [4]) (by kernel_rfl) (by simp) ?_
        refine AllReadyH.cons rfl (fun K9 hK => ?_) AllReadyH.nil
        have pf0 := HP2.out.frozen 0
        have pc0 : w2.cell? ⟨w.heap.size, 0, none⟩ = some (.int .i64 k) := HP2.out.cell 0
        have pf1 := HP2.out.frozen 1
        have pc1 : w2.cell? ⟨w.heap.size, 1, none⟩ = some (.string s) := HP2.out.cell 1
        have pf2 := HP2.out.frozen 2
        have pc2 : w2.cell? ⟨w.heap.size, 2, none⟩ = some (.slice ka kn kc) := HP2.out.cell 2
        have pf3 := HP2.out.frozen 3
        have pc3 : w2.cell? ⟨w.heap.size, 3, none⟩ = some (.slice la ln lc) := HP2.out.cell 3
        have pl := HP2.out.lt
        have qf0 := HQ2.out.frozen 0
        have qc0 : w2.cell? ⟨w.heap.size + 1, 0, none⟩ = some (.int .i64 k') := HQ2.out.cell 0
        have qf1 := HQ2.out.frozen 1
        have qc1 : w2.cell? ⟨w.heap.size + 1, 1, none⟩ = some (.string s') := HQ2.out.cell 1
        have qf2 := HQ2.out.frozen 2
        have qc2 : w2.cell? ⟨w.heap.size + 1, 2, none⟩ = some (.slice ka' kn' kc') := HQ2.out.cell 2
        have qf3 := HQ2.out.frozen 3
        have qc3 : w2.cell? ⟨w.heap.size + 1, 3, none⟩ = some (.slice la' ln' lc') := HQ2.out.cell 3
        have ql := HQ2.out.lt
        go_simp
        have HP3 := hide (resJ_v HP2.out (.int .i64 k) (.string s1) (.slice a1 n1 c1) (.slice a2 n2 c2))
        have HQ3 := hide (box_off4 HQ2.out (show w.heap.size + 1 ≠ w.heap.size by omega) (.int .i64 k) (.string s1) (.slice a1 n1 c1) (.slice a2 n2 c2))
        have HB3 := hide (below4 HB2.out (Nat.le_refl _) (.int .i64 k) (.string s1) (.slice a1 n1 c1) (.slice a2 n2 c2))
        refine hK.out _ _ trivial (fun _ => ?_)
        clear hK K9
        try simp only [Act.put, List.setIfInBounds_toArray, List.set_cons_zero, List.set_cons_succ, vagg]
        generalize ((((w2.setCell ⟨w.heap.size, 0, none⟩ (.int .i64 k)).setCell ⟨w.heap.size, 1, none⟩ (.string s1)).setCell ⟨w.heap.size, 2, none⟩ (.slice a1 n1 c1)).setCell ⟨w.heap.size, 3, none⟩ (.slice a2 n2 c2)) = w3 at *
        clear pf0 pf1 pf2 pf3 pc0 pc1 pc2 pc3 qf0 qf1 qf2 qf3 qc0 qc1 qc2 qc3 pl ql
        refine wpAnyH_ready (rs := [5]) (by kernel_rfl) (by simp) ?_
        refine AllReadyH.cons rfl (fun K9 hK => ?_) AllReadyH.nil
        have pf0 := HP3.out.frozen 0
        have pc0 : w3.cell? ⟨w.heap.size, 0, none⟩ = some (.int .i64 k) := HP3.out.cell 0
        have pf1 := HP3.out.frozen 1
        have pc1 : w3.cell? ⟨w.heap.size, 1, none⟩ = some (.string s1) := HP3.out.cell 1
        have pf2 := HP3.out.frozen 2
        have pc2 : w3.cell? ⟨w.heap.size, 2, none⟩ = some (.slice a1 n1 c1) := HP3.out.cell 2
        have pf3 := HP3.out.frozen 3
        have pc3 : w3.cell? ⟨w.heap.size, 3, none⟩ = some (.slice a2 n2 c2) := HP3.out.cell 3
        have pl := HP3.out.lt
        have qf0 := HQ3.out.frozen 0
        have qc0 : w3.cell? ⟨w.heap.size + 1, 0, none⟩ = some (.int .i64 k') := HQ3.out.cell 0
        have qf1 := HQ3.out.frozen 1
        have qc1 : w3.cell? ⟨w.heap.size + 1, 1, none⟩ = some (.string s') := HQ3.out.cell 1
        have qf2 := HQ3.out.frozen 2
        have qc2 : w3.cell? ⟨w.heap.size + 1, 2, none⟩ = some (.slice ka' kn' kc') := HQ3.out.cell 2
        have qf3 := HQ3.out.frozen 3
        have qc3 : w3.cell? ⟨w.heap.size + 1, 3, none⟩ = some (.slice la' ln' lc') := HQ3.out.cell 3
        have ql := HQ3.out.lt
        go_simp
        have HQ4 := hide (resJ_v HQ3.out (.int .i64 k') (.string s1') (.slice a1' n1' c1') (.slice a2' n2' c2'))
        have HP4 := hide (box_off4 HP3.out (show w.heap.size ≠ w.heap.size + 1 by omega) (.int .i64 k') (.string s1') (.slice a1' n1' c1') (.slice a2' n2' c2'))
        have HB4 := hide (below4 HB3.out (Nat.le_succ _) (.int .i64 k') (.string s1') (.slice a1' n1' c1') (.slice a2' n2' c2'))
        refine hK.out _ _ trivial (fun _ => ?_)
        clear hK K9
        try simp only [Act.put, List.setIfInBounds_toArray, List.set_cons_zero, List.set_cons_succ, vagg]
        generalize ((((w3.setCell ⟨w.heap.size + 1, 0, none⟩ (.int .i64 k')).setCell ⟨w.heap.size + 1, 1, none⟩ (.string s1')).setCell ⟨w.heap.size + 1, 2, none⟩ (.slice a1' n1' c1')).setCell ⟨w.heap.size + 1, 3, none⟩ (.slice a2' n2' c2')) = w4 at *
        clear pf0 pf1 pf2 pf3 pc0 pc1 pc2 pc3 qf0 qf1 qf2 qf3 qc0 qc1 qc2 qc3 pl ql
        refine wpAnyH_done (by kernel_rfl) ?_ _
        have pf0 := HP4.out.frozen 0
        have pc0 : w4.cell? ⟨w.heap.size, 0, none⟩ = some (.int .i64 k) := HP4.out.cell 0
        have pf1 := HP4.out.frozen 1
        have pc1 : w4.cell? ⟨w.heap.size, 1, none⟩ = some (.string s1) := HP4.out.cell 1
        have pf2 := HP4.out.frozen 2
        have pc2 : w4.cell? ⟨w.heap.size, 2, none⟩ = some (.slice a1 n1 c1) := HP4.out.cell 2
        have pf3 := HP4.out.frozen 3
        have pc3 : w4.cell? ⟨w.heap.size, 3, none⟩ = some (.slice a2 n2 c2) := HP4.out.cell 3
        have pl := HP4.out.lt
        have qf0 := HQ4.out.frozen 0
        have qc0 : w4.cell? ⟨w.heap.size + 1, 0, none⟩ = some (.int .i64 k') := HQ4.out.cell 0
        have qf1 := HQ4.out.frozen 1
        have qc1 : w4.cell? ⟨w.heap.size + 1, 1, none⟩ = some (.string s1') := HQ4.out.cell 1
        have qf2 := HQ4.out.frozen 2
        have qc2 : w4.cell? ⟨w.heap.size + 1, 2, none⟩ = some (.slice a1' n1' c1') := HQ4.out.cell 2
        have qf3 := HQ4.out.frozen 3
        have qc3 : w4.cell? ⟨w.heap.size + 1, 3, none⟩ = some (.slice a2' n2' c2') := HQ4.out.cell 3
        have ql := HQ4.out.lt
        by_cases hk : k = k'
        rotate_left
        · have d1 : (k == k') = false := by simpa using hk
          have HKK := hide hk
          clear hk
          go_wp2
          go_ret
          refine ⟨?_, HB4.out⟩
          have hR : R = false := Bool.eq_false_iff.2 (fun h => HKK.out ((HEQ.out.1 h).1))
          rw [hR]
          rfl
        subst hk
        by_cases hs : s1 = s1'
        rotate_left
        · have d1 : (s1.toList == s1'.toList) = false := str_ne hs
          have HKK := hide hs
          clear hs
          go_wp2
          go_ret
          refine ⟨?_, HB4.out⟩
          have hR : R = false := Bool.eq_false_iff.2 (fun h => HKK.out ((HEQ.out.1 h).2.1))
          rw [hR]
          rfl
        subst hs
        have hse : (s1.toList == s1.toList) = true := by simp
        go_wp2_with fail
        refine (HSEQ.out w4 HB4.out).mono ?_
        rintro e w5 ⟨rfl, hb5⟩
        have HP5 := hide (HP4.out.below hb5)
        have HQ5 := hide (HQ4.out.below hb5)
        have HB5 := hide (HB4.out.trans (hb5.mono HB4.out.size))
        clear hb5
        clear pf0 pf1 pf2 pf3 pc0 pc1 pc2 pc3 qf0 qf1 qf2 qf3 qc0 qc1 qc2 qc3 pl ql
        have pf0 := HP5.out.frozen 0
        have pc0 : w5.cell? ⟨w.heap.size, 0, none⟩ = some (.int .i64 k) := HP5.out.cell 0
        have pf1 := HP5.out.frozen 1
        have pc1 : w5.cell? ⟨w.heap.size, 1, none⟩ = some (.string s1) := HP5.out.cell 1
        have pf2 := HP5.out.frozen 2
        have pc2 : w5.cell? ⟨w.heap.size, 2, none⟩ = some (.slice a1 n1 c1) := HP5.out.cell 2
        have pf3 := HP5.out.frozen 3
        have pc3 : w5.cell? ⟨w.heap.size, 3, none⟩ = some (.slice a2 n2 c2) := HP5.out.cell 3
        have pl := HP5.out.lt
        have qf0 := HQ5.out.frozen 0
        have qc0 : w5.cell? ⟨w.heap.size + 1, 0, none⟩ = some (.int .i64 k) := HQ5.out.cell 0
        have qf1 := HQ5.out.frozen 1
        have qc1 : w5.cell? ⟨w.heap.size + 1, 1, none⟩ = some (.string s1) := HQ5.out.cell 1
        have qf2 := HQ5.out.frozen 2
        have qc2 : w5.cell? ⟨w.heap.size + 1, 2, none⟩ = some (.slice a1' n1' c1') := HQ5.out.cell 2
        have qf3 := HQ5.out.frozen 3
        have qc3 : w5.cell? ⟨w.heap.size + 1, 3, none⟩ = some (.slice a2' n2' c2') := HQ5.out.cell 3
        have ql := HQ5.out.lt
        by_cases hKK : K1 = K1'
        rotate_left
        · rw [decide_eq_false hKK]
          have HKK := hide hKK
          clear hKK
          go_wp2
          go_ret
          refine ⟨?_, HB5.out⟩
          have hR : R = false := Bool.eq_false_iff.2 (fun h => HKK.out ((HEQ.out.1 h).2.2.1))
          rw [hR]
          rfl
        rw [decide_eq_true hKK]
        have HKK := hide hKK
        clear hKK
        go_wp2_with fail
        refine (HEFN.out w5 HB5.out).mono ?_
        rintro e w6 ⟨r, rfl, hr, hb6⟩
        have HB6 := hide (HB5.out.trans (hb6.mono HB5.out.size))
        have HRR := hide hr
        clear hb6 hr
        clear pf0 pf1 pf2 pf3 pc0 pc1 pc2 pc3 qf0 qf1 qf2 qf3 qc0 qc1 qc2 qc3 pl ql
        go_wp2
        go_ret
        refine ⟨?_, HB6.out⟩
        have hR : R = r := Bool.eq_iff_iff.2 ⟨fun h => HRR.out.2 (HEQ.out.1 h).2.2.2, fun h => HEQ.out.2 ⟨trivial, trivial, HKK.out, HRR.out.1 h⟩⟩
        rw [hR]
        rfl
    · have pf0 := HPD.out.frozen 0
      have pc0 : wd.cell? ⟨w.heap.size, 0, none⟩ = some (.int .i64 k) := HPD.out.cell 0
      have pf1 := HPD.out.frozen 1
      have pc1 : wd.cell? ⟨w.heap.size, 1, none⟩ = some (.string s) := HPD.out.cell 1
      have pf2 := HPD.out.frozen 2
      have pc2 : wd.cell? ⟨w.heap.size, 2, none⟩ = some (.slice ka kn kc) := HPD.out.cell 2
      have pf3 := HPD.out.frozen 3
      have pc3 : wd.cell? ⟨w.heap.size, 3, none⟩ = some (.slice la ln lc) := HPD.out.cell 3
      have pl := HPD.out.lt
      have qf0 := HQD.out.frozen 0
      have qc0 : wd.cell? ⟨w.heap.size + 1, 0, none⟩ = some (.int .i64 k') := HQD.out.cell 0
      have qf1 := HQD.out.frozen 1
      have qc1 : wd.cell? ⟨w.heap.size + 1, 1, none⟩ = some (.string s') := HQD.out.cell 1
      have qf2 := HQD.out.frozen 2
      have qc2 : wd.cell? ⟨w.heap.size + 1, 2, none⟩ = some (.slice ka' kn' kc') := HQD.out.cell 2
      have qf3 := HQD.out.frozen 3
      have qc3 : wd.cell? ⟨w.heap.size + 1, 3, none⟩ = some (.slice la' ln' lc') := HQD.out.cell 3
      have ql := HQD.out.lt
      go_simp
      refine hK.out _ _ trivial (fun _ => ?_)
      clear hK K9
      clear pf0 pf1 pf2 pf3 pc0 pc1 pc2 pc3 qf0 qf1 qf2 qf3 qc0 qc1 qc2 qc3 pl ql
      try simp only [Act.put, List.setIfInBounds_toArray, List.set_cons_zero, List.set_cons_succ, vagg]
      refine wpAnyH_ready (rs := [0]) (by kernel_rfl) (by simp) ?_
      refine AllReadyH.cons rfl (fun K9 hK => ?_) AllReadyH.nil
      have pf0 := HPD.out.frozen 0
      have pc0 : wd.cell? ⟨w.heap.size, 0, none⟩ = some (.int .i64 k) := HPD.out.cell 0
      have pf1 := HPD.out.frozen 1
      have pc1 : wd.cell? ⟨w.heap.size, 1, none⟩ = some (.string s) := HPD.out.cell 1
      have pf2 := HPD.out.frozen 2
      have pc2 : wd.cell? ⟨w.heap.size, 2, none⟩ = some (.slice ka kn kc) := HPD.out.cell 2
      have pf3 := HPD.out.frozen 3
      have pc3 : wd.cell? ⟨w.heap.size, 3, none⟩ = some (.slice la ln lc) := HPD.out.cell 3
      have pl := HPD.out.lt
      have qf0 := HQD.out.frozen 0
      have qc0 : wd.cell? ⟨w.heap.size + 1, 0, none⟩ = some (.int .i64 k') := HQD.out.cell 0
      have qf1 := HQD.out.frozen 1
      have qc1 : wd.cell? ⟨w.heap.size + 1, 1, none⟩ = some (.string s') := HQD.out.cell 1
      have qf2 := HQD.out.frozen 2
      have qc2 : wd.cell? ⟨w.heap.size + 1, 2, none⟩ = some (.slice ka' kn' kc') := HQD.out.cell 2
      have qf3 := HQD.out.frozen 3
      have qc3 : wd.cell? ⟨w.heap.size + 1, 3, none⟩ = some (.slice la' ln' lc') := HQD.out.cell 3
      have ql := HQD.out.lt
      go_simp
      refine hK.out _ _ trivial (fun _ => ?_)
      clear hK K9
      clear pf0 pf1 pf2 pf3 pc0 pc1 pc2 pc3 qf0 qf1 qf2 qf3 qc0 qc1 qc2 qc3 pl ql
      try simp only [Act.put, List.setIfInBounds_toArray, List.set_cons_zero, List.set_cons_succ, vagg]
      refine wpAnyH_ready (rs := [1]) (by kernel_rfl) (by simp) ?_
      refine AllReadyH.cons rfl (fun K9 hK => ?_) AllReadyH.nil
      go_simp
      refine (HCX.out _).mono ?_
      rintro e w1 ⟨rfl, hB9⟩
      have HP1 := hide (HPD.out.below hB9)
      have HQ1 := hide (HQD.out.below hB9)
      have HB1 := hide (HBD.out.trans (hB9.mono HBD.out.size))
      refine hK.out _ _ trivial (fun _ => ?_)
      clear hK K9 hB9
      try simp only [Act.put, List.setIfInBounds_toArray, List.set_cons_zero, List.set_cons_succ, vagg]
      refine wpAnyH_ready (rs := [3]) (by kernel_rfl) (by simp) ?_
      refine AllReadyH.cons rfl (fun K9 hK => ?_) AllReadyH.nil
      go_simp
      refine (HCY.out _).mono ?_
      rintro e w2 ⟨rfl, hB9⟩
      have HP2 := hide (HP1.out.below hB9)
      have HQ2 := hide (HQ1.out.below hB9)
      have HB2 := hide (HB1.out.trans (hB9.mono HB1.out.size))
      refine hK.out _ _ trivial (fun _ => ?_)
      clear hK K9 hB9
      try simp only [Act.put, List.setIfInBounds_toArray, List.set_cons_zero, List.set_cons_succ, vagg]
      refine wpAnyH_ready (rs := [4]) (by kernel_rfl) (by simp) ?_
      refine AllReadyH.cons rfl (fun K9 hK => ?_) AllReadyH.nil
      have pf0 := HP2.out.frozen 0
      have pc0 : w2.cell? ⟨w.heap.size, 0, none⟩ = some (.int .i64 k) := HP2.out.cell 0
      have pf1 := HP2.out.frozen 1
      have pc1 : w2.cell? ⟨w.heap.size, 1, none⟩ = some (.string s) := HP2.out.cell 1
      have pf2 := HP2.out.frozen 2
      have pc2 : w2.cell? ⟨w.heap.size, 2, none⟩ = some (.slice ka kn kc) := HP2.out.cell 2
      have pf3 := HP2.out.frozen 3
      have pc3 : w2.cell? ⟨w.heap.size, 3, none⟩ = some (.slice la ln lc) := HP2.out.cell 3
      have pl := HP2.out.lt
      have qf0 := HQ2.out.frozen 0
      have qc0 : w2.cell? ⟨w.heap.size + 1, 0, none⟩ = some (.int .i64 k') := HQ2.out.cell 0
      have qf1 := HQ2.out.frozen 1
      have qc1 : w2.cell? ⟨w.heap.size + 1, 1, none⟩ = some (.string s') := HQ2.out.cell 1
      have qf2 := HQ2.out.frozen 2
      have qc2 : w2.cell? ⟨w.heap.size + 1, 2, none⟩ = some (.slice ka' kn' kc') := HQ2.out.cell 2
      have qf3 := HQ2.out.frozen 3
      have qc3 : w2.cell? ⟨w.heap.size + 1, 3, none⟩ = some (.slice la' ln' lc') := HQ2.out.cell 3
      have ql := HQ2.out.lt
      go_simp
      have HP3 := hide (resJ_v HP2.out (.int .i64 k) (.string s1) (.slice a1 n1 c1) (.slice a2 n2 c2))
      have HQ3 := hide (box_off4 HQ2.out (show w.heap.size + 1 ≠ w.heap.size by omega) (.int .i64 k) (.string s1) (.slice a1 n1 c1) (.slice a2 n2 c2))
      have HB3 := hide (below4 HB2.out (Nat.le_refl _) (.int .i64 k) (.string s1) (.slice a1 n1 c1) (.slice a2 n2 c2))
      refine hK.out _ _ trivial (fun _ => ?_)
      clear hK K9
      try simp only [Act.put, List.setIfInBounds_toArray, List.set_cons_zero, List.set_cons_succ, vagg]
      generalize ((((w2.setCell ⟨w.heap.size, 0, none⟩ (.int .i64 k)).setCell ⟨w.heap.size, 1, none⟩ (.string s1)).setCell ⟨w.heap.size, 2, none⟩ (.slice a1 n1 c1)).setCell ⟨w.heap.size, 3, none⟩ (.slice a2 n2 c2)) = w3 at *
      clear pf0 pf1 pf2 pf3 pc0 pc1 pc2 pc3 qf0 qf1 qf2 qf3 qc0 qc1 qc2 qc3 pl ql
      refine wpAnyH_ready (rs := [5]) (by kernel_rfl) (by simp) ?_
      refine AllReadyH.cons rfl (fun K9 hK => ?_) AllReadyH.nil
      have pf0 := HP3.out.frozen 0
      have pc0 : w3.cell? ⟨w.heap.size, 0, none⟩ = some (.int .i64 k) := HP3.out.cell 0
      have pf1 := HP3.out.frozen 1
      have pc1 : w3.cell? ⟨w.heap.size, 1, none⟩ = some (.string s1) := HP3.out.cell 1
      have pf2 := HP3.out.frozen 2
      have pc2 : w3.cell? ⟨w.heap.size, 2, none⟩ = some (.slice a1 n1 c1) := HP3.out.cell 2
      have pf3 := HP3.out.frozen 3
      have pc3 : w3.cell? ⟨w.heap.size, 3, none⟩ = some (.slice a2 n2 c2) := HP3.out.cell 3
      have pl := HP3.out.lt
      have qf0 := HQ3.out.frozen 0
      have qc0 : w3.cell? ⟨w.heap.size + 1, 0, none⟩ = some (.int .i64 k') := HQ3.out.cell 0
      have qf1 := HQ3.out.frozen 1
      have qc1 : w3.cell? ⟨w.heap.size + 1, 1, none⟩ = some (.string s') := HQ3.out.cell 1
      have qf2 := HQ3.out.frozen 2
      have qc2 : w3.cell? ⟨w.heap.size + 1, 2, none⟩ = some (.slice ka' kn' kc') := HQ3.out.cell 2
      have qf3 := HQ3.out.frozen 3
      have qc3 : w3.cell? ⟨w.heap.size + 1, 3, none⟩ = some (.slice la' ln' lc') := HQ3.out.cell 3
      have ql := HQ3.out.lt
      go_simp
      have HQ4 := hide (resJ_v HQ3.out (.int .i64 k') (.string s1') (.slice a1' n1' c1') (.slice a2' n2' c2'))
      have HP4 := hide (box_off4 HP3.out (show w.heap.size ≠ w.heap.size + 1 by omega) (.int .i64 k') (.string s1') (.slice a1' n1' c1') (.slice a2' n2' c2'))
      have HB4 := hide (below4 HB3.out (Nat.le_succ _) (.int .i64 k') (.string s1') (.slice a1' n1' c1') (.slice a2' n2' c2'))
      refine hK.out _ _ trivial (fun _ => ?_)
      clear hK K9
      try simp only [Act.put, List.setIfInBounds_toArray, List.set_cons_zero, List.set_cons_succ, vagg]
      generalize ((((w3.setCell ⟨w.heap.size + 1, 0, none⟩ (.int .i64 k')).setCell ⟨w.heap.size + 1, 1, none⟩ (.string s1')).setCell ⟨w.heap.size + 1, 2, none⟩ (.slice a1' n1' c1')).setCell ⟨w.heap.size + 1, 3, none⟩ (.slice a2' n2' c2')) = w4 at *
      clear pf0 pf1 pf2 pf3 pc0 pc1 pc2 pc3 qf0 qf1 qf2 qf3 qc0 qc1 qc2 qc3 pl ql
      refine wpAnyH_done (by kernel_rfl) ?_ _
      have pf0 := HP4.out.frozen 0
      have pc0 : w4.cell? ⟨w.heap.size, 0, none⟩ = some (.int .i64 k) := HP4.out.cell 0
      have pf1 := HP4.out.frozen 1
      have pc1 : w4.cell? ⟨w.heap.size, 1, none⟩ = some (.string s1) := HP4.out.cell 1
      have pf2 := HP4.out.frozen 2
      have pc2 : w4.cell? ⟨w.heap.size, 2, none⟩ = some (.slice a1 n1 c1) := HP4.out.cell 2
      have pf3 := HP4.out.frozen 3
      have pc3 : w4.cell? ⟨w.heap.size, 3, none⟩ = some (.slice a2 n2 c2) := HP4.out.cell 3
      have pl := HP4.out.lt
      have qf0 := HQ4.out.frozen 0
      have qc0 : w4.cell? ⟨w.heap.size + 1, 0, none⟩ = some (.int .i64 k') := HQ4.out.cell 0
      have qf1 := HQ4.out.frozen 1
      have qc1 : w4.cell? ⟨w.heap.size + 1, 1, none⟩ = some (.string s1') := HQ4.out.cell 1
      have qf2 := HQ4.out.frozen 2
      have qc2 : w4.cell? ⟨w.heap.size + 1, 2, none⟩ = some (.slice a1' n1' c1') := HQ4.out.cell 2
      have qf3 := HQ4.out.frozen 3
      have qc3 : w4.cell? ⟨w.heap.size + 1, 3, none⟩ = some (.slice a2' n2' c2') := HQ4.out.cell 3
      have ql := HQ4.out.lt
      by_cases hk : k = k'
      rotate_left
      · have d1 : (k == k') = false := by simpa using hk
        have HKK := hide hk
        clear hk
        go_wp2
        go_ret
        refine ⟨?_, HB4.out⟩
        have hR : R = false := Bool.eq_false_iff.2 (fun h => HKK.out ((HEQ.out.1 h).1))
        rw [hR]
        rfl
      subst hk
      by_cases hs : s1 = s1'
      rotate_left
      · have d1 : (s1.toList == s1'.toList) = false := str_ne hs
        have HKK := hide hs
        clear hs
        go_wp2
        go_ret
        refine ⟨?_, HB4.out⟩
        have hR : R = false := Bool.eq_false_iff.2 (fun h => HKK.out ((HEQ.out.1 h).2.1))
        rw [hR]
        rfl
      subst hs
      have hse : (s1.toList == s1.toList) = true := by simp
      go_wp2_with fail
      refine (HSEQ.out w4 HB4.out).mono ?_
      rintro e w5 ⟨rfl, hb5⟩
      have HP5 := hide (HP4.out.below hb5)
      have HQ5 := hide (HQ4.out.below hb5)
      have HB5 := hide (HB4.out.trans (hb5.mono HB4.out.size))
      clear hb5
      clear pf0 pf1 pf2 pf3 pc0 pc1 pc2 pc3 qf0 qf1 qf2 qf3 qc0 qc1 qc2 qc3 pl ql
      have pf0 := HP5.out.frozen 0
      have pc0 : w5.cell? ⟨w.heap.size, 0, none⟩ = some (.int .i64 k) := HP5.out.cell 0
      have pf1 := HP5.out.frozen 1
      have pc1 : w5.cell? ⟨w.heap.size, 1, none⟩ = some (.string s1) := HP5.out.cell 1
      have pf2 := HP5.out.frozen 2
      have pc2 : w5.cell? ⟨w.heap.size, 2, none⟩ = some (.slice a1 n1 c1) := HP5.out.cell 2
      have pf3 := HP5.out.frozen 3
      have pc3 : w5.cell? ⟨w.heap.size, 3, none⟩ = some (.slice a2 n2 c2) := HP5.out.cell 3
      have pl := HP5.out.lt
      have qf0 := HQ5.out.frozen 0
      have qc0 : w5.cell? ⟨w.heap.size + 1, 0, none⟩ = some (.int .i64 k) := HQ5.out.cell 0
      have qf1 := HQ5.out.frozen 1
      have qc1 : w5.cell? ⟨w.heap.size + 1, 1, none⟩ = some (.string s1) := HQ5.out.cell 1
      have qf2 := HQ5.out.frozen 2
      have qc2 : w5.cell? ⟨w.heap.size + 1, 2, none⟩ = some (.slice a1' n1' c1') := HQ5.out.cell 2
      have qf3 := HQ5.out.frozen 3
      have qc3 : w5.cell? ⟨w.heap.size + 1, 3, none⟩ = some (.slice a2' n2' c2') := HQ5.out.cell 3
      have ql := HQ5.out.lt
      by_cases hKK : K1 = K1'
      rotate_left
      · rw [decide_eq_false hKK]
        have HKK := hide hKK
        clear hKK
        go_wp2
        go_ret
        refine ⟨?_, HB5.out⟩
        have hR : R = false := Bool.eq_false_iff.2 (fun h => HKK.out ((HEQ.out.1 h).2.2.1))
        rw [hR]
        rfl
      rw [decide_eq_true hKK]
      have HKK := hide hKK
      clear hKK
      go_wp2_with fail
      refine (HEFN.out w5 HB5.out).mono ?_
      rintro e w6 ⟨r, rfl, hr, hb6⟩
      have HB6 := hide (HB5.out.trans (hb6.mono HB5.out.size))
      have HRR := hide hr
      clear hb6 hr
      clear pf0 pf1 pf2 pf3 pc0 pc1 pc2 pc3 qf0 qf1 qf2 qf3 qc0 qc1 qc2 qc3 pl ql
      go_wp2
      go_ret
      refine ⟨?_, HB6.out⟩
      have hR : R = r := Bool.eq_iff_iff.2 ⟨fun h => HRR.out.2 (HEQ.out.1 h).2.2.2, fun h => HEQ.out.2 ⟨trivial, trivial, HKK.out, HRR.out.1 h⟩⟩
      rw [hR]
      rfl

end Go.Proofs.YtbdpmpepmjpadaaGreatDoor

namespace Go.Proofs.YtbdpmpepmjpadaaGreatDoor
set_option linter.unusedVariables false
set_option linter.unusedSimpArgs false
set_option maxRecDepth 100000
open Go Go.RowKit Go.Shelf Go.Lib

theorem results_cf {fn : Func} {i j k : Tmp} (h : fn.results = #[.cell i 29, .cell j 31, .tmp k]) {tmps : Array Value} {W : World} {b b' : Nat} {c0 c1 c2 c3 c4 c5 c6 c7 c8 c9 f0 f1 f2 f3 f4 : Value} {t t' : TypeId} {ev : Value} (hp : tmps.getD i undef = .pointer (some ⟨b, 0, none⟩)) (hq : tmps.getD j undef = .pointer (some ⟨b', 0, none⟩)) (he : tmps.getD k undef = ev) (T : BoxC W b t #[c0, c1, c2, c3, c4, c5, c6, c7, c8, c9]) (T' : BoxC W b' t' #[f0, f1, f2, f3, f4]) :
    (results fn tmps).run Tryz.prog W = .ok (.tuple #[.agg #[c0, c1, c2, c3, c4, c5, c6, c7, c8, c9], .agg #[f0, f1, f2, f3, f4], ev]) W := by
  have a0 : W.cell? ⟨b, 0, none⟩ = some c0 := T.cell 0
  have a1 : W.cell? ⟨b, 1, none⟩ = some c1 := T.cell 1
  have a2 : W.cell? ⟨b, 2, none⟩ = some c2 := T.cell 2
  have a3 : W.cell? ⟨b, 3, none⟩ = some c3 := T.cell 3
  have a4 : W.cell? ⟨b, 4, none⟩ = some c4 := T.cell 4
  have a5 : W.cell? ⟨b, 5, none⟩ = some c5 := T.cell 5
  have a6 : W.cell? ⟨b, 6, none⟩ = some c6 := T.cell 6
  have a7 : W.cell? ⟨b, 7, none⟩ = some c7 := T.cell 7
  have a8 : W.cell? ⟨b, 8, none⟩ = some c8 := T.cell 8
  have a9 : W.cell? ⟨b, 9, none⟩ = some c9 := T.cell 9
  have b0 : W.cell? ⟨b', 0, none⟩ = some f0 := T'.cell 0
  have b1 : W.cell? ⟨b', 1, none⟩ = some f1 := T'.cell 1
  have b2 : W.cell? ⟨b', 2, none⟩ = some f2 := T'.cell 2
  have b3 : W.cell? ⟨b', 3, none⟩ = some f3 := T'.cell 3
  have b4 : W.cell? ⟨b', 4, none⟩ = some f4 := T'.cell 4
  have hp' : tmps[i]?.getD undef = .pointer (some ⟨b, 0, none⟩) := by simpa using hp
  have hq' : tmps[j]?.getD undef = .pointer (some ⟨b', 0, none⟩) := by simpa using hq
  have he' : tmps[k]?.getD undef = ev := by simpa using he
  simp [results, h, hp', hq', he', go_sem, a0, a1, a2, a3, a4, a5, a6, a7, a8, a9, b0, b1, b2, b3, b4]
theorem flat_is {W : World} {S : Nat → Prop} {y : JC} {x : JC} (h : TIn W S y (flatT x)) : ∃ ka kn kc la ln lc, y = (x.1, x.2.1, .slice ka kn kc, .slice la ln lc) := by
  obtain ⟨h1, h2⟩ := h.sl
  obtain ⟨k, s, kv, lv⟩ := x
  unfold flatT at h
  cases h with
  | mk k s kv la lc K L xs hK hc hsl ht =>
    simp only at h1 h2
    obtain ⟨ka, kn, kc, rfl⟩ := h1
    exact ⟨ka, kn, kc, la, _, lc, rfl⟩
theorem flat_lt (k : Int) (s : ByteArray) (h : s.size ≤ 1000) : LtT (.mk k s [] []) := .mk k s [] [] (by simp) (by simp) (fun _ => by omega) (fun i hi => by simp at hi)
theorem tree6_lt : LtT tree6 := .mk 6 ⟨#[]⟩ _ _ (by decide) (by decide) (by decide) (fun i hi => by
  match i, hi with
  | 0, _ => exact flat_lt _ _ (by decide)
  | 1, _ => exact flat_lt _ _ (by decide)
  | 2, _ => exact flat_lt _ _ (by decide))
theorem tree7_lt : LtT tree7 := .mk 5 ⟨#[]⟩ _ _ (by decide) (by decide) (by decide) (fun i hi => by
  match i, hi with
  | 0, _ => exact flat_lt _ _ (by decide))
def kParams : ByteArray := ⟨#[112, 97, 114, 97, 109, 115]⟩
theorem get6_id : getJ tree6 kId = some (flatT cOne) := by unfold getJ tree6; simp [fndK, show kJson ≠ kId by decide]
theorem get6_ver : getJ tree6 kJson = some (flatT cVer) := by unfold getJ tree6; simp [fndK]
theorem get6_method : getJ tree6 kMethod = some (flatT cM) := by unfold getJ tree6; simp [fndK, show kJson ≠ kMethod by decide, show kId ≠ kMethod by decide]
theorem get6_params : getJ tree6 kParams = none := by unfold getJ tree6; simp [fndK, show kJson ≠ kParams by decide, show kId ≠ kParams by decide, show kMethod ≠ kParams by decide]
theorem get7 (key : ByteArray) : getJ tree7 key = none := by unfold getJ tree7; simp
theorem clJ_one : clJ (flatT cOne) = flatT cOne := by unfold flatT cOne; rw [clJ_eq]; simp [sP, kP, lP, clJs]
theorem clJ_ver : clJ (flatT cVer) = flatT cVer := by unfold flatT cVer; rw [clJ_eq]; simp [sP, kP, lP, clJs]
theorem clJ_m : clJ (flatT cM) = flatT cM := by unfold flatT cM; rw [clJ_eq]; simp [sP, kP, lP, clJs]
theorem getT_lt {T : JT} (h : LtT T) (s : ByteArray) : LtT ((getJ T s).getD zeroT) := by
  have hz : LtT zeroT := .mk 0 ⟨#[]⟩ [] [] (by simp) (by simp) (by decide) (fun i hi => by simp at hi)
  obtain ⟨k, s0, K, L⟩ := T
  obtain ⟨_, _, _, _, hK, hL, hs, ht⟩ := h
  show LtT ((if k = 6 ∧ K.length = L.length then (fndK K s).bind (fun j => L[j]?) else none).getD zeroT)
  by_cases hc : k = 6 ∧ K.length = L.length
  · rw [if_pos hc]
    cases fndK K s with
    | none => exact hz
    | some j =>
      show LtT ((L[j]?).getD zeroT)
      rcases Nat.lt_or_ge j L.length with h | h
      · rw [List.getElem?_eq_getElem h]
        exact ht j h
      · rw [List.getElem?_eq_none h]
        exact hz
  · rw [if_neg hc]
    exact hz
theorem getT_clt {o : Option JT} (h : LtT (o.getD zeroT)) : LtT ((o.map clJ).getD zeroT) := by
  cases o with
  | none => exact h
  | some t => exact LtT.clone h
theorem zero_lt : LtT zeroT := flat_lt 0 ⟨#[]⟩ (by decide)

set_option maxHeartbeats 4000000 in
theorem isid_ok (w : World) (ka la : Option Addr) (kn kc ln lc : Nat) (hE : ErrS w) : Calls Tryz.prog 25 #[.agg #[.int .i64 3, .string sOne, .slice ka kn kc, .slice la ln lc]] w fun e w' => e = .returned (.bool true) ∧ Below w.heap.size w w' := by
  have hb := bel w (.cells #[.int .i64 3, .string sOne, .slice ka kn kc, .slice la ln lc] 27)
  have hp := BoxC.new w 27 #[.int .i64 3, .string sOne, .slice ka kn kc, .slice la ln lc]
  generalize hw0 : w.alloc (.cells #[.int .i64 3, .string sOne, .slice ka kn kc, .slice la ln lc] 27) = w0 at *
  have hj := jint_any w0 3 [49] (by decide) (by decide) ka la kn kc ln lc (hE.below hb)
  have hij : optV (intJ 3 [49]) = .tuple #[.int .i64 1, .bool true] := by kernel_rfl
  unfold IntR vagg at hj
  rw [hij] at hj
  simp only at hj
  rw [show strOf [49] = sOne from rfl] at hj
  have HJ := hide hj
  have v0 : w0.cell? ⟨w.heap.size, 0, none⟩ = some (.int .i64 3) := hp.cell 0
  have v1 : w0.cell? ⟨w.heap.size, 1, none⟩ = some (.string sOne) := hp.cell 1
  have v2 : w0.cell? ⟨w.heap.size, 2, none⟩ = some (.slice ka kn kc) := hp.cell 2
  have v3 : w0.cell? ⟨w.heap.size, 3, none⟩ = some (.slice la ln lc) := hp.cell 3
  have HW0 := hide hw0
  have HB1 := hide hb
  clear hw0 hp hb hE hj hij
  go_enter Tryz.func25, Tryz.ntmps25
  go_upto_region 1 with fail
  rw [HW0.out]
  clear HW0
  go_wp2_with fail
  refine HJ.out.mono ?_
  rintro e w1 ⟨rfl, hb1⟩
  have HB2 := hide (HB1.out.trans (hb1.mono HB1.out.size))
  clear hb1 v0 v1 v2 v3
  go_wp2
  go_ret
  exact ⟨rfl, HB2.out⟩

set_option maxHeartbeats 8000000 in
theorem hasv_any (w : World) {S : Nat → Prop} {x : JC} {T : JT} (o : Option JT) (hx : TIn w S x T) (hl : LtT T) (hg : getJ T kJson = o) (r : Bool) (hr : eqJ ((o.map clJ).getD zeroT) (flatT cVer) = r) : Calls Tryz.prog 26 #[vagg x] w fun e w' => e = .returned (.bool r) ∧ Below w.heap.size w w' := by
  obtain ⟨hs2, hs3⟩ := hx.sl
  obtain ⟨k, s, kv, lv⟩ := x
  obtain ⟨ka, kn, kc, rfl⟩ := hs2
  obtain ⟨la, ln, lc, rfl⟩ := hs3
  have hb := bel w (.cells #[.int .i64 k, .string s, .slice ka kn kc, .slice la ln lc] 27)
  have hp := BoxC.new w 27 #[.int .i64 k, .string s, .slice ka kn kc, .slice la ln lc]
  generalize hw0 : w.alloc (.cells #[.int .i64 k, .string s, .slice ka kn kc, .slice la ln lc] 27) = w0 at *
  have HGT := hide (get_any kJson w0 (hx.bel hb) hl)
  have HLT : Hid (LtT ((o.map clJ).getD zeroT)) := by
    have h := getT_lt hl kJson
    rw [hg] at h
    exact getT_clt h
  rw [hg] at HGT
  unfold vagg kJson at HGT
  unfold vagg
  simp only at HGT ⊢
  have v0 : w0.cell? ⟨w.heap.size, 0, none⟩ = some (.int .i64 k) := hp.cell 0
  have v1 : w0.cell? ⟨w.heap.size, 1, none⟩ = some (.string s) := hp.cell 1
  have v2 : w0.cell? ⟨w.heap.size, 2, none⟩ = some (.slice ka kn kc) := hp.cell 2
  have v3 : w0.cell? ⟨w.heap.size, 3, none⟩ = some (.slice la ln lc) := hp.cell 3
  have HW0 := hide hw0
  have HB1 := hide hb
  have HRR := hide hr
  clear hw0 hp hb hx hl hg hr
  go_enter Tryz.func26, Tryz.ntmps26
  go_upto_region 1 with fail
  rw [HW0.out]
  clear HW0
  go_wp2_with fail
  refine HGT.out.mono ?_
  rintro e w1 ⟨⟨yk, ys, yK, yL⟩, rfl, hb1, hT⟩
  obtain ⟨h4, h5⟩ := hT.sl
  simp only at h4 h5
  obtain ⟨ya, yn, yc, rfl⟩ := h4
  obtain ⟨yd, ye, yf, rfl⟩ := h5
  simp only [vagg]
  have hb2 := bel w1 (.cells #[.int .i64 yk, .string ys, .slice ya yn yc, .slice yd ye yf] 27)
  have hx2 := BoxC.new w1 27 #[.int .i64 yk, .string ys, .slice ya yn yc, .slice yd ye yf]
  have HT := hide (hT.bel hb2)
  have HB2 := hide (HB1.out.trans ((hb1.trans (hb2.mono hb1.size)).mono HB1.out.size))
  clear hb1 hb2 hT v0 v1 v2 v3 HGT
  go_upto_region 2 with fail
  generalize w1.heap.size = B1 at *
  generalize w1.alloc (.cells #[.int .i64 yk, .string ys, .slice ya yn yc, .slice yd ye yf] 27) = w2 at *
  have HS : Hid (∀ X0 : World, Below w2.heap.size w2 X0 → (X0.cell? ⟨B1, 0, none⟩ = some (.int .i64 yk) ∧ X0.cell? ⟨B1, 1, none⟩ = some (.string ys) ∧ X0.cell? ⟨B1, 2, none⟩ = some (.slice ya yn yc) ∧ X0.cell? ⟨B1, 3, none⟩ = some (.slice yd ye yf))) := fun X0 h => ⟨(hx2.below h).cell 0, (hx2.below h).cell 1, (hx2.below h).cell 2, (hx2.below h).cell 3⟩
  clear hx2
  refine wp_region_held_drew (S := fun X0 : World => X0.cell? ⟨B1, 0, none⟩ = some (.int .i64 yk) ∧ X0.cell? ⟨B1, 1, none⟩ = some (.string ys) ∧ X0.cell? ⟨B1, 2, none⟩ = some (.slice ya yn yc) ∧ X0.cell? ⟨B1, 3, none⟩ = some (.slice yd ye yf)) (by kernel_rfl) (HS.out _ (Below.refl _ _).drew) (fun hHeld => ?_)
  have HB : Hid (Below w2.heap.size w2 w2.drew) := (Below.refl _ _).drew
  generalize w2.drew = wd at *
  refine takeD (i := 0) (v := ?v1) (some 10) rfl (by kernel_rfl) (by kernel_rfl) (by kernel_rfl) (fun _ _ _ h => h) (Or.inl ⟨by rfl, ?hy1⟩) (HS.out _ HB.out) (by rfl) ?rest1
  case hy1 => first | (intro w hSw; (try dsimp only at hSw); obtain ⟨s0, s1, s2, s3⟩ := hSw; go_simp; done) | (intro w hSw; (try dsimp only at hSw); obtain ⟨s0, s1, s2, s3⟩ := hSw; go_simp; with_reducible rfl)
  try simp only [Act.put, List.setIfInBounds_toArray, List.set_cons_zero, List.set_cons_succ, vagg]
  refine wpAnyH_ready (rs := [1]) (by kernel_rfl) (by simp) ?_
  refine AllReadyH.cons rfl (fun K9 hK => ?_) AllReadyH.nil
  go_simp
  have hcall := text_calls wd sVer
  try unfold vagg at hcall
  try simp only at hcall
  refine hcall.mono ?_
  rintro e w3 ⟨rfl, hb9⟩
  have HB9 := hide (HB.out.trans (hb9.mono HB.out.size))
  clear hcall HB
  rename Hid (Below _ _ w3) => HB
  refine hK.out _ _ (HS.out _ HB.out) (fun _ => ?_)
  clear hK K9 hb9
  try simp only [Act.put, List.setIfInBounds_toArray, List.set_cons_zero, List.set_cons_succ, vagg]
  refine wpAnyH_ready (rs := [2]) (by kernel_rfl) (by simp) ?_
  refine AllReadyH.cons rfl (fun K9 hK => ?_) AllReadyH.nil
  go_simp
  have hcall := equal_any (HT.out.bel HB.out) HLT.out (flat_in w3 (fun _ => True) (x := cVer) ⟨rfl, rfl⟩) (flat_lt _ _ (by decide)) w3 (Below.refl _ _)
  try unfold vagg at hcall
  try simp only at hcall
  refine hcall.mono ?_
  rintro e w4 ⟨rfl, hb9⟩
  have HB9 := hide (HB.out.trans (hb9.mono HB.out.size))
  clear hcall HB
  rename Hid (Below _ _ w4) => HB
  refine hK.out _ _ (HS.out _ HB.out) (fun _ => ?_)
  clear hK K9 hb9
  try simp only [Act.put, List.setIfInBounds_toArray, List.set_cons_zero, List.set_cons_succ, vagg]
  refine takeD (i := 3) (v := ?v2) (some 2) rfl (by kernel_rfl) (by kernel_rfl) (by kernel_rfl) (fun _ _ _ h => h) (Or.inl ⟨by rfl, ?hy2⟩) (HS.out _ HB.out) (by rfl) ?rest2
  case hy2 => first | (intro w hSw; (try dsimp only at hSw); obtain ⟨s0, s1, s2, s3⟩ := hSw; go_simp; done) | (intro w hSw; (try dsimp only at hSw); obtain ⟨s0, s1, s2, s3⟩ := hSw; go_simp; with_reducible rfl)
  try simp only [Act.put, List.setIfInBounds_toArray, List.set_cons_zero, List.set_cons_succ, vagg]
  refine wpAnyH_done (by kernel_rfl) ?_ _
  go_wp2
  go_ret
  refine ⟨?_, HB2.out.trans (HB.out.mono HB2.out.size)⟩
  rw [← HRR.out]
  rfl

end Go.Proofs.YtbdpmpepmjpadaaGreatDoor

namespace Go.Proofs.YtbdpmpepmjpadaaGreatDoor
set_option linter.unusedVariables false
set_option linter.unusedSimpArgs false
set_option maxRecDepth 100000
open Go Go.RowKit Go.Shelf Go.Lib

theorem call_set {W : World} {A : Nat} {t : TypeId} {c0 c1 c2 c3 c4 c5 c6 c7 c8 c9 : Value} (h0 : BoxC W A t #[c0, c1, c2, c3, c4, c5, c6, c7, c8, c9]) (x0 x1 x2 x3 x4 x5 x6 x7 x8 x9 : Value) : BoxC ((((((((((W.setCell ⟨A, 0, none⟩ x0).setCell ⟨A, 1, none⟩ x1).setCell ⟨A, 2, none⟩ x2).setCell ⟨A, 3, none⟩ x3).setCell ⟨A, 4, none⟩ x4).setCell ⟨A, 5, none⟩ x5).setCell ⟨A, 6, none⟩ x6).setCell ⟨A, 7, none⟩ x7).setCell ⟨A, 8, none⟩ x8).setCell ⟨A, 9, none⟩ x9) A t #[x0, x1, x2, x3, x4, x5, x6, x7, x8, x9] := by
  have h1 : BoxC (W.setCell ⟨A, 0, none⟩ x0) A t #[x0, c1, c2, c3, c4, c5, c6, c7, c8, c9] := h0.set 0 x0
  have h2 : BoxC ((W.setCell ⟨A, 0, none⟩ x0).setCell ⟨A, 1, none⟩ x1) A t #[x0, x1, c2, c3, c4, c5, c6, c7, c8, c9] := h1.set 1 x1
  have h3 : BoxC (((W.setCell ⟨A, 0, none⟩ x0).setCell ⟨A, 1, none⟩ x1).setCell ⟨A, 2, none⟩ x2) A t #[x0, x1, x2, c3, c4, c5, c6, c7, c8, c9] := h2.set 2 x2
  have h4 : BoxC ((((W.setCell ⟨A, 0, none⟩ x0).setCell ⟨A, 1, none⟩ x1).setCell ⟨A, 2, none⟩ x2).setCell ⟨A, 3, none⟩ x3) A t #[x0, x1, x2, x3, c4, c5, c6, c7, c8, c9] := h3.set 3 x3
  have h5 : BoxC (((((W.setCell ⟨A, 0, none⟩ x0).setCell ⟨A, 1, none⟩ x1).setCell ⟨A, 2, none⟩ x2).setCell ⟨A, 3, none⟩ x3).setCell ⟨A, 4, none⟩ x4) A t #[x0, x1, x2, x3, x4, c5, c6, c7, c8, c9] := h4.set 4 x4
  have h6 : BoxC ((((((W.setCell ⟨A, 0, none⟩ x0).setCell ⟨A, 1, none⟩ x1).setCell ⟨A, 2, none⟩ x2).setCell ⟨A, 3, none⟩ x3).setCell ⟨A, 4, none⟩ x4).setCell ⟨A, 5, none⟩ x5) A t #[x0, x1, x2, x3, x4, x5, c6, c7, c8, c9] := h5.set 5 x5
  have h7 : BoxC (((((((W.setCell ⟨A, 0, none⟩ x0).setCell ⟨A, 1, none⟩ x1).setCell ⟨A, 2, none⟩ x2).setCell ⟨A, 3, none⟩ x3).setCell ⟨A, 4, none⟩ x4).setCell ⟨A, 5, none⟩ x5).setCell ⟨A, 6, none⟩ x6) A t #[x0, x1, x2, x3, x4, x5, x6, c7, c8, c9] := h6.set 6 x6
  have h8 : BoxC ((((((((W.setCell ⟨A, 0, none⟩ x0).setCell ⟨A, 1, none⟩ x1).setCell ⟨A, 2, none⟩ x2).setCell ⟨A, 3, none⟩ x3).setCell ⟨A, 4, none⟩ x4).setCell ⟨A, 5, none⟩ x5).setCell ⟨A, 6, none⟩ x6).setCell ⟨A, 7, none⟩ x7) A t #[x0, x1, x2, x3, x4, x5, x6, x7, c8, c9] := h7.set 7 x7
  have h9 : BoxC (((((((((W.setCell ⟨A, 0, none⟩ x0).setCell ⟨A, 1, none⟩ x1).setCell ⟨A, 2, none⟩ x2).setCell ⟨A, 3, none⟩ x3).setCell ⟨A, 4, none⟩ x4).setCell ⟨A, 5, none⟩ x5).setCell ⟨A, 6, none⟩ x6).setCell ⟨A, 7, none⟩ x7).setCell ⟨A, 8, none⟩ x8) A t #[x0, x1, x2, x3, x4, x5, x6, x7, x8, c9] := h8.set 8 x8
  have h10 : BoxC ((((((((((W.setCell ⟨A, 0, none⟩ x0).setCell ⟨A, 1, none⟩ x1).setCell ⟨A, 2, none⟩ x2).setCell ⟨A, 3, none⟩ x3).setCell ⟨A, 4, none⟩ x4).setCell ⟨A, 5, none⟩ x5).setCell ⟨A, 6, none⟩ x6).setCell ⟨A, 7, none⟩ x7).setCell ⟨A, 8, none⟩ x8).setCell ⟨A, 9, none⟩ x9) A t #[x0, x1, x2, x3, x4, x5, x6, x7, x8, x9] := h9.set 9 x9
  exact h10
theorem call_off {W : World} {A B : Nat} {t : TypeId} {cs : Array Value} (h0 : BoxC W B t cs) (hne : B ≠ A) (x0 x1 x2 x3 x4 x5 x6 x7 x8 x9 : Value) : BoxC ((((((((((W.setCell ⟨A, 0, none⟩ x0).setCell ⟨A, 1, none⟩ x1).setCell ⟨A, 2, none⟩ x2).setCell ⟨A, 3, none⟩ x3).setCell ⟨A, 4, none⟩ x4).setCell ⟨A, 5, none⟩ x5).setCell ⟨A, 6, none⟩ x6).setCell ⟨A, 7, none⟩ x7).setCell ⟨A, 8, none⟩ x8).setCell ⟨A, 9, none⟩ x9) B t cs := by
  have h1 : BoxC (W.setCell ⟨A, 0, none⟩ x0) B t cs := h0.other hne 0 x0
  have h2 : BoxC ((W.setCell ⟨A, 0, none⟩ x0).setCell ⟨A, 1, none⟩ x1) B t cs := h1.other hne 1 x1
  have h3 : BoxC (((W.setCell ⟨A, 0, none⟩ x0).setCell ⟨A, 1, none⟩ x1).setCell ⟨A, 2, none⟩ x2) B t cs := h2.other hne 2 x2
  have h4 : BoxC ((((W.setCell ⟨A, 0, none⟩ x0).setCell ⟨A, 1, none⟩ x1).setCell ⟨A, 2, none⟩ x2).setCell ⟨A, 3, none⟩ x3) B t cs := h3.other hne 3 x3
  have h5 : BoxC (((((W.setCell ⟨A, 0, none⟩ x0).setCell ⟨A, 1, none⟩ x1).setCell ⟨A, 2, none⟩ x2).setCell ⟨A, 3, none⟩ x3).setCell ⟨A, 4, none⟩ x4) B t cs := h4.other hne 4 x4
  have h6 : BoxC ((((((W.setCell ⟨A, 0, none⟩ x0).setCell ⟨A, 1, none⟩ x1).setCell ⟨A, 2, none⟩ x2).setCell ⟨A, 3, none⟩ x3).setCell ⟨A, 4, none⟩ x4).setCell ⟨A, 5, none⟩ x5) B t cs := h5.other hne 5 x5
  have h7 : BoxC (((((((W.setCell ⟨A, 0, none⟩ x0).setCell ⟨A, 1, none⟩ x1).setCell ⟨A, 2, none⟩ x2).setCell ⟨A, 3, none⟩ x3).setCell ⟨A, 4, none⟩ x4).setCell ⟨A, 5, none⟩ x5).setCell ⟨A, 6, none⟩ x6) B t cs := h6.other hne 6 x6
  have h8 : BoxC ((((((((W.setCell ⟨A, 0, none⟩ x0).setCell ⟨A, 1, none⟩ x1).setCell ⟨A, 2, none⟩ x2).setCell ⟨A, 3, none⟩ x3).setCell ⟨A, 4, none⟩ x4).setCell ⟨A, 5, none⟩ x5).setCell ⟨A, 6, none⟩ x6).setCell ⟨A, 7, none⟩ x7) B t cs := h7.other hne 7 x7
  have h9 : BoxC (((((((((W.setCell ⟨A, 0, none⟩ x0).setCell ⟨A, 1, none⟩ x1).setCell ⟨A, 2, none⟩ x2).setCell ⟨A, 3, none⟩ x3).setCell ⟨A, 4, none⟩ x4).setCell ⟨A, 5, none⟩ x5).setCell ⟨A, 6, none⟩ x6).setCell ⟨A, 7, none⟩ x7).setCell ⟨A, 8, none⟩ x8) B t cs := h8.other hne 8 x8
  have h10 : BoxC ((((((((((W.setCell ⟨A, 0, none⟩ x0).setCell ⟨A, 1, none⟩ x1).setCell ⟨A, 2, none⟩ x2).setCell ⟨A, 3, none⟩ x3).setCell ⟨A, 4, none⟩ x4).setCell ⟨A, 5, none⟩ x5).setCell ⟨A, 6, none⟩ x6).setCell ⟨A, 7, none⟩ x7).setCell ⟨A, 8, none⟩ x8).setCell ⟨A, 9, none⟩ x9) B t cs := h9.other hne 9 x9
  exact h10
theorem call_bel {w W : World} {A n : Nat} (h0 : Below n w W) (hn : n ≤ A) (x0 x1 x2 x3 x4 x5 x6 x7 x8 x9 : Value) : Below n w ((((((((((W.setCell ⟨A, 0, none⟩ x0).setCell ⟨A, 1, none⟩ x1).setCell ⟨A, 2, none⟩ x2).setCell ⟨A, 3, none⟩ x3).setCell ⟨A, 4, none⟩ x4).setCell ⟨A, 5, none⟩ x5).setCell ⟨A, 6, none⟩ x6).setCell ⟨A, 7, none⟩ x7).setCell ⟨A, 8, none⟩ x8).setCell ⟨A, 9, none⟩ x9) := by
  have h1 : Below n w (W.setCell ⟨A, 0, none⟩ x0) := h0.setCell (p := ⟨A, 0, none⟩) hn x0
  have h2 : Below n w ((W.setCell ⟨A, 0, none⟩ x0).setCell ⟨A, 1, none⟩ x1) := h1.setCell (p := ⟨A, 1, none⟩) hn x1
  have h3 : Below n w (((W.setCell ⟨A, 0, none⟩ x0).setCell ⟨A, 1, none⟩ x1).setCell ⟨A, 2, none⟩ x2) := h2.setCell (p := ⟨A, 2, none⟩) hn x2
  have h4 : Below n w ((((W.setCell ⟨A, 0, none⟩ x0).setCell ⟨A, 1, none⟩ x1).setCell ⟨A, 2, none⟩ x2).setCell ⟨A, 3, none⟩ x3) := h3.setCell (p := ⟨A, 3, none⟩) hn x3
  have h5 : Below n w (((((W.setCell ⟨A, 0, none⟩ x0).setCell ⟨A, 1, none⟩ x1).setCell ⟨A, 2, none⟩ x2).setCell ⟨A, 3, none⟩ x3).setCell ⟨A, 4, none⟩ x4) := h4.setCell (p := ⟨A, 4, none⟩) hn x4
  have h6 : Below n w ((((((W.setCell ⟨A, 0, none⟩ x0).setCell ⟨A, 1, none⟩ x1).setCell ⟨A, 2, none⟩ x2).setCell ⟨A, 3, none⟩ x3).setCell ⟨A, 4, none⟩ x4).setCell ⟨A, 5, none⟩ x5) := h5.setCell (p := ⟨A, 5, none⟩) hn x5
  have h7 : Below n w (((((((W.setCell ⟨A, 0, none⟩ x0).setCell ⟨A, 1, none⟩ x1).setCell ⟨A, 2, none⟩ x2).setCell ⟨A, 3, none⟩ x3).setCell ⟨A, 4, none⟩ x4).setCell ⟨A, 5, none⟩ x5).setCell ⟨A, 6, none⟩ x6) := h6.setCell (p := ⟨A, 6, none⟩) hn x6
  have h8 : Below n w ((((((((W.setCell ⟨A, 0, none⟩ x0).setCell ⟨A, 1, none⟩ x1).setCell ⟨A, 2, none⟩ x2).setCell ⟨A, 3, none⟩ x3).setCell ⟨A, 4, none⟩ x4).setCell ⟨A, 5, none⟩ x5).setCell ⟨A, 6, none⟩ x6).setCell ⟨A, 7, none⟩ x7) := h7.setCell (p := ⟨A, 7, none⟩) hn x7
  have h9 : Below n w (((((((((W.setCell ⟨A, 0, none⟩ x0).setCell ⟨A, 1, none⟩ x1).setCell ⟨A, 2, none⟩ x2).setCell ⟨A, 3, none⟩ x3).setCell ⟨A, 4, none⟩ x4).setCell ⟨A, 5, none⟩ x5).setCell ⟨A, 6, none⟩ x6).setCell ⟨A, 7, none⟩ x7).setCell ⟨A, 8, none⟩ x8) := h8.setCell (p := ⟨A, 8, none⟩) hn x8
  have h10 : Below n w ((((((((((W.setCell ⟨A, 0, none⟩ x0).setCell ⟨A, 1, none⟩ x1).setCell ⟨A, 2, none⟩ x2).setCell ⟨A, 3, none⟩ x3).setCell ⟨A, 4, none⟩ x4).setCell ⟨A, 5, none⟩ x5).setCell ⟨A, 6, none⟩ x6).setCell ⟨A, 7, none⟩ x7).setCell ⟨A, 8, none⟩ x8).setCell ⟨A, 9, none⟩ x9) := h9.setCell (p := ⟨A, 9, none⟩) hn x9
  exact h10
theorem ft_set {W : World} {A : Nat} {t : TypeId} {c0 c1 c2 c3 c4 : Value} (h0 : BoxC W A t #[c0, c1, c2, c3, c4]) (x0 x1 x2 x3 x4 : Value) : BoxC (((((W.setCell ⟨A, 0, none⟩ x0).setCell ⟨A, 1, none⟩ x1).setCell ⟨A, 2, none⟩ x2).setCell ⟨A, 3, none⟩ x3).setCell ⟨A, 4, none⟩ x4) A t #[x0, x1, x2, x3, x4] := by
  have h1 : BoxC (W.setCell ⟨A, 0, none⟩ x0) A t #[x0, c1, c2, c3, c4] := h0.set 0 x0
  have h2 : BoxC ((W.setCell ⟨A, 0, none⟩ x0).setCell ⟨A, 1, none⟩ x1) A t #[x0, x1, c2, c3, c4] := h1.set 1 x1
  have h3 : BoxC (((W.setCell ⟨A, 0, none⟩ x0).setCell ⟨A, 1, none⟩ x1).setCell ⟨A, 2, none⟩ x2) A t #[x0, x1, x2, c3, c4] := h2.set 2 x2
  have h4 : BoxC ((((W.setCell ⟨A, 0, none⟩ x0).setCell ⟨A, 1, none⟩ x1).setCell ⟨A, 2, none⟩ x2).setCell ⟨A, 3, none⟩ x3) A t #[x0, x1, x2, x3, c4] := h3.set 3 x3
  have h5 : BoxC (((((W.setCell ⟨A, 0, none⟩ x0).setCell ⟨A, 1, none⟩ x1).setCell ⟨A, 2, none⟩ x2).setCell ⟨A, 3, none⟩ x3).setCell ⟨A, 4, none⟩ x4) A t #[x0, x1, x2, x3, x4] := h4.set 4 x4
  exact h5
theorem ft_off {W : World} {A B : Nat} {t : TypeId} {cs : Array Value} (h0 : BoxC W B t cs) (hne : B ≠ A) (x0 x1 x2 x3 x4 : Value) : BoxC (((((W.setCell ⟨A, 0, none⟩ x0).setCell ⟨A, 1, none⟩ x1).setCell ⟨A, 2, none⟩ x2).setCell ⟨A, 3, none⟩ x3).setCell ⟨A, 4, none⟩ x4) B t cs := by
  have h1 : BoxC (W.setCell ⟨A, 0, none⟩ x0) B t cs := h0.other hne 0 x0
  have h2 : BoxC ((W.setCell ⟨A, 0, none⟩ x0).setCell ⟨A, 1, none⟩ x1) B t cs := h1.other hne 1 x1
  have h3 : BoxC (((W.setCell ⟨A, 0, none⟩ x0).setCell ⟨A, 1, none⟩ x1).setCell ⟨A, 2, none⟩ x2) B t cs := h2.other hne 2 x2
  have h4 : BoxC ((((W.setCell ⟨A, 0, none⟩ x0).setCell ⟨A, 1, none⟩ x1).setCell ⟨A, 2, none⟩ x2).setCell ⟨A, 3, none⟩ x3) B t cs := h3.other hne 3 x3
  have h5 : BoxC (((((W.setCell ⟨A, 0, none⟩ x0).setCell ⟨A, 1, none⟩ x1).setCell ⟨A, 2, none⟩ x2).setCell ⟨A, 3, none⟩ x3).setCell ⟨A, 4, none⟩ x4) B t cs := h4.other hne 4 x4
  exact h5
theorem ft_bel {w W : World} {A n : Nat} (h0 : Below n w W) (hn : n ≤ A) (x0 x1 x2 x3 x4 : Value) : Below n w (((((W.setCell ⟨A, 0, none⟩ x0).setCell ⟨A, 1, none⟩ x1).setCell ⟨A, 2, none⟩ x2).setCell ⟨A, 3, none⟩ x3).setCell ⟨A, 4, none⟩ x4) := by
  have h1 : Below n w (W.setCell ⟨A, 0, none⟩ x0) := h0.setCell (p := ⟨A, 0, none⟩) hn x0
  have h2 : Below n w ((W.setCell ⟨A, 0, none⟩ x0).setCell ⟨A, 1, none⟩ x1) := h1.setCell (p := ⟨A, 1, none⟩) hn x1
  have h3 : Below n w (((W.setCell ⟨A, 0, none⟩ x0).setCell ⟨A, 1, none⟩ x1).setCell ⟨A, 2, none⟩ x2) := h2.setCell (p := ⟨A, 2, none⟩) hn x2
  have h4 : Below n w ((((W.setCell ⟨A, 0, none⟩ x0).setCell ⟨A, 1, none⟩ x1).setCell ⟨A, 2, none⟩ x2).setCell ⟨A, 3, none⟩ x3) := h3.setCell (p := ⟨A, 3, none⟩) hn x3
  have h5 : Below n w (((((W.setCell ⟨A, 0, none⟩ x0).setCell ⟨A, 1, none⟩ x1).setCell ⟨A, 2, none⟩ x2).setCell ⟨A, 3, none⟩ x3).setCell ⟨A, 4, none⟩ x4) := h4.setCell (p := ⟨A, 4, none⟩) hn x4
  exact h5

set_option maxHeartbeats 8000000 in
theorem read6 (w : World) (ao : Option Addr) (cap : Nat) (h : Byts w (.slice ao ex6.length cap) ex6) (hU : Utf8Tabs 0 1 w) (hE : ErrS w) (hcap : ex6.length ≤ cap) :
    Calls Tryz.prog 7 #[.slice ao ex6.length cap] w fun e w' => (∃ ya yn yc yd ye yf zk zs za zn zc zd ze zf, e = .returned (.tuple #[.agg #[.bool true, .int .i64 3, .string sOne, .slice ya yn yc, .slice yd ye yf, .string sM, .int .i64 zk, .string zs, .slice za zn zc, .slice zd ze zf], .agg #[.int .i64 0, .int .i64 0, .string ⟨#[]⟩, .slice none 0 0, .slice none 0 0], .bool true])) ∧ Below w.heap.size w w' := by
  obtain ⟨n, hn⟩ : ∃ n, ex6.length = n := ⟨_, rfl⟩
  have hb : Below w.heap.size w ((w.alloc (.cells #[.bool false, .int .i64 0, .string ⟨#[]⟩, .slice none 0 0, .slice none 0 0, .string ⟨#[]⟩, .int .i64 0, .string ⟨#[]⟩, .slice none 0 0, .slice none 0 0] 29)).alloc (.cells #[.int .i64 0, .int .i64 0, .string ⟨#[]⟩, .slice none 0 0, .slice none 0 0] 31)) := (bel w _).alloc (by simp) _
  have hp := (BoxC.new w 29 #[.bool false, .int .i64 0, .string ⟨#[]⟩, .slice none 0 0, .slice none 0 0, .string ⟨#[]⟩, .int .i64 0, .string ⟨#[]⟩, .slice none 0 0, .slice none 0 0]).alloc (.cells #[.int .i64 0, .int .i64 0, .string ⟨#[]⟩, .slice none 0 0, .slice none 0 0] 31)
  have hq := BoxC.new (w.alloc (.cells #[.bool false, .int .i64 0, .string ⟨#[]⟩, .slice none 0 0, .slice none 0 0, .string ⟨#[]⟩, .int .i64 0, .string ⟨#[]⟩, .slice none 0 0, .slice none 0 0] 29)) 31 #[.int .i64 0, .int .i64 0, .string ⟨#[]⟩, .slice none 0 0, .slice none 0 0]
  rw [World.size_alloc] at hq
  generalize hw0 : (w.alloc (.cells #[.bool false, .int .i64 0, .string ⟨#[]⟩, .slice none 0 0, .slice none 0 0, .string ⟨#[]⟩, .int .i64 0, .string ⟨#[]⟩, .slice none 0 0, .slice none 0 0] 29)).alloc (.cells #[.int .i64 0, .int .i64 0, .string ⟨#[]⟩, .slice none 0 0, .slice none 0 0] 31) = w0 at *
  have HPA := hide (parse6 w0 ao cap (h.below hb) (Utf8Tabs_below hU hb) hcap)
  rw [hn] at HPA ⊢
  have HES : Hid (∀ W, Below w.heap.size w W → ErrS W) := fun W hW => hE.below hW
  have HPC := hide hp
  have HPF := hide hq
  have HW0 := hide hw0
  have HB := hide hb
  clear hw0 hp hq hb h hU hE hcap hn
  go_enter Tryz.func7, Tryz.ntmps7
  go_upto_region 1 with fail
  rw [HW0.out]
  clear HW0
  go_wp2_with fail
  refine HPA.out.mono ?_
  rintro e w1 ⟨⟨⟨xk, xs, xK, xL⟩, rfl, hT⟩, hb9⟩
  obtain ⟨h4, h5⟩ := hT.sl
  simp only at h4 h5
  obtain ⟨xa, xn, xc, rfl⟩ := h4
  obtain ⟨xd, xe, xf, rfl⟩ := h5
  simp only [vagg]
  have HTx := hide hT
  clear hT HPA
  have HB9 := hide (HB.out.trans (hb9.mono HB.out.size))
  clear HB
  have HB := HB9
  clear HB9
  have HPC9 := hide (HPC.out.below hb9)
  clear HPC
  have HPC := HPC9
  clear HPC9
  have HPF9 := hide (HPF.out.below hb9)
  clear HPF
  have HPF := HPF9
  clear HPF9
  clear hb9
  have hb9 := bel w1 (.cells #[.int .i64 xk, .string xs, .slice xa xn xc, .slice xd xe xf] 27)
  have HBx := hide (BoxC.new w1 27 #[.int .i64 xk, .string xs, .slice xa xn xc, .slice xd xe xf])
  have HB9 := hide (HB.out.trans (hb9.mono HB.out.size))
  clear HB
  have HB := HB9
  clear HB9
  have HPC9 := hide (HPC.out.below hb9)
  clear HPC
  have HPC := HPC9
  clear HPC9
  have HPF9 := hide (HPF.out.below hb9)
  clear HPF
  have HPF := HPF9
  clear HPF9
  have HTx9 := hide (HTx.out.bel hb9)
  clear HTx
  have HTx := HTx9
  clear HTx9
  clear hb9
  go_upto_region 4 with fail
  generalize w1.heap.size = Bx at *
  generalize w1.alloc (.cells #[.int .i64 xk, .string xs, .slice xa xn xc, .slice xd xe xf] 27) = w2 at *
  have v0 := HBx.out.cell 0
  have v1 := HBx.out.cell 1
  have v2 := HBx.out.cell 2
  have v3 := HBx.out.cell 3
  simp only [List.getElem?_toArray, List.getElem?_cons_zero, List.getElem?_cons_succ, Nat.reduceAdd] at v0 v1 v2 v3
  have hcall := get_any kId w2 HTx.out tree6_lt
  rw [get6_id] at hcall
  unfold vagg kId at hcall
  simp only at hcall
  go_wp2_with fail
  refine (hcall).mono ?_
  rintro e w3 ⟨⟨yk, ys, yK, yL⟩, rfl, hb9, hT⟩
  rw [Option.map_some, Option.getD_some, clJ_one] at hT
  obtain ⟨ya, yn, yc, yd, ye, yf, hy⟩ := flat_is hT
  obtain ⟨rfl, rfl, rfl, rfl⟩ : yk = 3 ∧ ys = sOne ∧ yK = .slice ya yn yc ∧ yL = .slice yd ye yf := by
    simp only [cOne, Prod.mk.injEq] at hy
    exact hy
  simp only [vagg, Option.isSome_some]
  clear hT hy hcall
  clear v0 v1 v2 v3
  have HB9 := hide (HB.out.trans (hb9.mono HB.out.size))
  clear HB
  have HB := HB9
  clear HB9
  have HPC9 := hide (HPC.out.below hb9)
  clear HPC
  have HPC := HPC9
  clear HPC9
  have HPF9 := hide (HPF.out.below hb9)
  clear HPF
  have HPF := HPF9
  clear HPF9
  have HTx9 := hide (HTx.out.bel hb9)
  clear HTx
  have HTx := HTx9
  clear HTx9
  have HBx9 := hide (HBx.out.below hb9)
  clear HBx
  have HBx := HBx9
  clear HBx9
  clear hb9
  have hb9 := bel w3 (.cells #[.int .i64 3, .string sOne, .slice ya yn yc, .slice yd ye yf] 27)
  have HBy := hide (BoxC.new w3 27 #[.int .i64 3, .string sOne, .slice ya yn yc, .slice yd ye yf])
  have HB9 := hide (HB.out.trans (hb9.mono HB.out.size))
  clear HB
  have HB := HB9
  clear HB9
  have HPC9 := hide (HPC.out.below hb9)
  clear HPC
  have HPC := HPC9
  clear HPC9
  have HPF9 := hide (HPF.out.below hb9)
  clear HPF
  have HPF := HPF9
  clear HPF9
  have HTx9 := hide (HTx.out.bel hb9)
  clear HTx
  have HTx := HTx9
  clear HTx9
  have HBx9 := hide (HBx.out.below hb9)
  clear HBx
  have HBx := HBx9
  clear HBx9
  clear hb9
  go_upto_region 5 with fail
  generalize w3.heap.size = By at *
  generalize w3.alloc (.cells #[.int .i64 3, .string sOne, .slice ya yn yc, .slice yd ye yf] 27) = w4 at *
  have v0 := HBy.out.cell 0
  have v1 := HBy.out.cell 1
  have v2 := HBy.out.cell 2
  have v3 := HBy.out.cell 3
  simp only [List.getElem?_toArray, List.getElem?_cons_zero, List.getElem?_cons_succ, Nat.reduceAdd] at v0 v1 v2 v3
  go_wp2_with fail
  refine (isid_ok w4 _ _ _ _ _ _ (HES.out _ HB.out)).mono ?_
  rintro e w5 ⟨rfl, hb9⟩
  clear v0 v1 v2 v3
  have HB9 := hide (HB.out.trans (hb9.mono HB.out.size))
  clear HB
  have HB := HB9
  clear HB9
  have HPC9 := hide (HPC.out.below hb9)
  clear HPC
  have HPC := HPC9
  clear HPC9
  have HPF9 := hide (HPF.out.below hb9)
  clear HPF
  have HPF := HPF9
  clear HPF9
  have HTx9 := hide (HTx.out.bel hb9)
  clear HTx
  have HTx := HTx9
  clear HTx9
  have HBx9 := hide (HBx.out.below hb9)
  clear HBx
  have HBx := HBx9
  clear HBx9
  have HBy9 := hide (HBy.out.below hb9)
  clear HBy
  have HBy := HBy9
  clear HBy9
  clear hb9
  have v0 := HBy.out.cell 0
  have v1 := HBy.out.cell 1
  have v2 := HBy.out.cell 2
  have v3 := HBy.out.cell 3
  simp only [List.getElem?_toArray, List.getElem?_cons_zero, List.getElem?_cons_succ, Nat.reduceAdd] at v0 v1 v2 v3
  go_upto_region 7 with fail
  have hb9 := bel w5 (.cells #[.int .i64 (-32600), .int .i64 3, .string sOne, .slice ya yn yc, .slice yd ye yf] 31)
  have HBi := hide (BoxC.new w5 31 #[.int .i64 (-32600), .int .i64 3, .string sOne, .slice ya yn yc, .slice yd ye yf])
  have HB9 := hide (HB.out.trans (hb9.mono HB.out.size))
  clear HB
  have HB := HB9
  clear HB9
  have HPC9 := hide (HPC.out.below hb9)
  clear HPC
  have HPC := HPC9
  clear HPC9
  have HPF9 := hide (HPF.out.below hb9)
  clear HPF
  have HPF := HPF9
  clear HPF9
  have HTx9 := hide (HTx.out.bel hb9)
  clear HTx
  have HTx := HTx9
  clear HTx9
  have HBx9 := hide (HBx.out.below hb9)
  clear HBx
  have HBx := HBx9
  clear HBx9
  have HBy9 := hide (HBy.out.below hb9)
  clear HBy
  have HBy := HBy9
  clear HBy9
  clear hb9
  go_upto_region 8 with fail
  generalize w5.heap.size = Bi at *
  generalize w5.alloc (.cells #[.int .i64 (-32600), .int .i64 3, .string sOne, .slice ya yn yc, .slice yd ye yf] 31) = w6 at *
  clear v0 v1 v2 v3
  have v0 := HBx.out.cell 0
  have v1 := HBx.out.cell 1
  have v2 := HBx.out.cell 2
  have v3 := HBx.out.cell 3
  simp only [List.getElem?_toArray, List.getElem?_cons_zero, List.getElem?_cons_succ, Nat.reduceAdd] at v0 v1 v2 v3
  have hcall := hasv_any w6 _ HTx.out tree6_lt get6_ver true (by rw [Option.map_some, Option.getD_some, clJ_ver]; exact eqJ_refl _)
  unfold vagg at hcall
  simp only at hcall
  go_wp2_with fail
  refine hcall.mono ?_
  rintro e w7 ⟨rfl, hb9⟩
  clear hcall
  clear v0 v1 v2 v3
  have HB9 := hide (HB.out.trans (hb9.mono HB.out.size))
  clear HB
  have HB := HB9
  clear HB9
  have HPC9 := hide (HPC.out.below hb9)
  clear HPC
  have HPC := HPC9
  clear HPC9
  have HPF9 := hide (HPF.out.below hb9)
  clear HPF
  have HPF := HPF9
  clear HPF9
  have HTx9 := hide (HTx.out.bel hb9)
  clear HTx
  have HTx := HTx9
  clear HTx9
  have HBx9 := hide (HBx.out.below hb9)
  clear HBx
  have HBx := HBx9
  clear HBx9
  have HBy9 := hide (HBy.out.below hb9)
  clear HBy
  have HBy := HBy9
  clear HBy9
  have HBi9 := hide (HBi.out.below hb9)
  clear HBi
  have HBi := HBi9
  clear HBi9
  clear hb9
  have v0 := HBx.out.cell 0
  have v1 := HBx.out.cell 1
  have v2 := HBx.out.cell 2
  have v3 := HBx.out.cell 3
  simp only [List.getElem?_toArray, List.getElem?_cons_zero, List.getElem?_cons_succ, Nat.reduceAdd] at v0 v1 v2 v3
  have hcall := get_any kMethod w7 HTx.out tree6_lt
  rw [get6_method] at hcall
  unfold vagg kMethod at hcall
  simp only at hcall
  go_wp2_with fail
  refine (hcall).mono ?_
  rintro e w8 ⟨⟨mk, ms, mK, mL⟩, rfl, hb9, hT⟩
  rw [Option.map_some, Option.getD_some, clJ_m] at hT
  obtain ⟨ma, mn, mc, md, me, mf, hy⟩ := flat_is hT
  obtain ⟨rfl, rfl, rfl, rfl⟩ : mk = 4 ∧ ms = sM ∧ mK = .slice ma mn mc ∧ mL = .slice md me mf := by
    simp only [cM, Prod.mk.injEq] at hy
    exact hy
  simp only [vagg, Option.isSome_some]
  clear hT hy hcall
  clear v0 v1 v2 v3
  have HB9 := hide (HB.out.trans (hb9.mono HB.out.size))
  clear HB
  have HB := HB9
  clear HB9
  have HPC9 := hide (HPC.out.below hb9)
  clear HPC
  have HPC := HPC9
  clear HPC9
  have HPF9 := hide (HPF.out.below hb9)
  clear HPF
  have HPF := HPF9
  clear HPF9
  have HTx9 := hide (HTx.out.bel hb9)
  clear HTx
  have HTx := HTx9
  clear HTx9
  have HBx9 := hide (HBx.out.below hb9)
  clear HBx
  have HBx := HBx9
  clear HBx9
  have HBy9 := hide (HBy.out.below hb9)
  clear HBy
  have HBy := HBy9
  clear HBy9
  have HBi9 := hide (HBi.out.below hb9)
  clear HBi
  have HBi := HBi9
  clear HBi9
  clear hb9
  have hb9 := bel w8 (.cells #[.int .i64 4, .string sM, .slice ma mn mc, .slice md me mf] 27)
  have HBm := hide (BoxC.new w8 27 #[.int .i64 4, .string sM, .slice ma mn mc, .slice md me mf])
  have HB9 := hide (HB.out.trans (hb9.mono HB.out.size))
  clear HB
  have HB := HB9
  clear HB9
  have HPC9 := hide (HPC.out.below hb9)
  clear HPC
  have HPC := HPC9
  clear HPC9
  have HPF9 := hide (HPF.out.below hb9)
  clear HPF
  have HPF := HPF9
  clear HPF9
  have HTx9 := hide (HTx.out.bel hb9)
  clear HTx
  have HTx := HTx9
  clear HTx9
  have HBx9 := hide (HBx.out.below hb9)
  clear HBx
  have HBx := HBx9
  clear HBx9
  have HBy9 := hide (HBy.out.below hb9)
  clear HBy
  have HBy := HBy9
  clear HBy9
  have HBi9 := hide (HBi.out.below hb9)
  clear HBi
  have HBi := HBi9
  clear HBi9
  clear hb9
  go_upto_region 11 with fail
  generalize w8.heap.size = Bm at *
  generalize w8.alloc (.cells #[.int .i64 4, .string sM, .slice ma mn mc, .slice md me mf] 27) = w9 at *
  have v0 := HBx.out.cell 0
  have v1 := HBx.out.cell 1
  have v2 := HBx.out.cell 2
  have v3 := HBx.out.cell 3
  simp only [List.getElem?_toArray, List.getElem?_cons_zero, List.getElem?_cons_succ, Nat.reduceAdd] at v0 v1 v2 v3
  have hcall := get_any kParams w9 HTx.out tree6_lt
  rw [get6_params] at hcall
  unfold vagg kParams at hcall
  simp only at hcall
  go_wp2_with fail
  refine (hcall).mono ?_
  rintro e wa ⟨⟨zk, zs, zK, zL⟩, rfl, hb9, hT⟩
  obtain ⟨h4, h5⟩ := hT.sl
  simp only at h4 h5
  obtain ⟨za, zn, zc, rfl⟩ := h4
  obtain ⟨zd, ze, zf, rfl⟩ := h5
  simp only [vagg, Option.isSome_none]
  clear hT hcall
  clear v0 v1 v2 v3
  have HB9 := hide (HB.out.trans (hb9.mono HB.out.size))
  clear HB
  have HB := HB9
  clear HB9
  have HPC9 := hide (HPC.out.below hb9)
  clear HPC
  have HPC := HPC9
  clear HPC9
  have HPF9 := hide (HPF.out.below hb9)
  clear HPF
  have HPF := HPF9
  clear HPF9
  have HTx9 := hide (HTx.out.bel hb9)
  clear HTx
  have HTx := HTx9
  clear HTx9
  have HBx9 := hide (HBx.out.below hb9)
  clear HBx
  have HBx := HBx9
  clear HBx9
  have HBy9 := hide (HBy.out.below hb9)
  clear HBy
  have HBy := HBy9
  clear HBy9
  have HBi9 := hide (HBi.out.below hb9)
  clear HBi
  have HBi := HBi9
  clear HBi9
  have HBm9 := hide (HBm.out.below hb9)
  clear HBm
  have HBm := HBm9
  clear HBm9
  clear hb9
  have hb9 := bel wa (.cells #[.int .i64 zk, .string zs, .slice za zn zc, .slice zd ze zf] 27)
  have HBz := hide (BoxC.new wa 27 #[.int .i64 zk, .string zs, .slice za zn zc, .slice zd ze zf])
  have HB9 := hide (HB.out.trans (hb9.mono HB.out.size))
  clear HB
  have HB := HB9
  clear HB9
  have HPC9 := hide (HPC.out.below hb9)
  clear HPC
  have HPC := HPC9
  clear HPC9
  have HPF9 := hide (HPF.out.below hb9)
  clear HPF
  have HPF := HPF9
  clear HPF9
  have HTx9 := hide (HTx.out.bel hb9)
  clear HTx
  have HTx := HTx9
  clear HTx9
  have HBx9 := hide (HBx.out.below hb9)
  clear HBx
  have HBx := HBx9
  clear HBx9
  have HBy9 := hide (HBy.out.below hb9)
  clear HBy
  have HBy := HBy9
  clear HBy9
  have HBi9 := hide (HBi.out.below hb9)
  clear HBi
  have HBi := HBi9
  clear HBi9
  have HBm9 := hide (HBm.out.below hb9)
  clear HBm
  have HBm := HBm9
  clear HBm9
  clear hb9
  go_upto_region 14 with fail
  generalize wa.heap.size = Bz at *
  generalize wa.alloc (.cells #[.int .i64 zk, .string zs, .slice za zn zc, .slice zd ze zf] 27) = wb at *
  have v0 := HBm.out.cell 0
  have v1 := HBm.out.cell 1
  have v2 := HBm.out.cell 2
  have v3 := HBm.out.cell 3
  simp only [List.getElem?_toArray, List.getElem?_cons_zero, List.getElem?_cons_succ, Nat.reduceAdd] at v0 v1 v2 v3
  go_upto_region 16 with fail
  have u0 := HBy.out.cell 0
  have u1 := HBy.out.cell 1
  have u2 := HBy.out.cell 2
  have u3 := HBy.out.cell 3
  simp only [List.getElem?_toArray, List.getElem?_cons_zero, List.getElem?_cons_succ, Nat.reduceAdd] at u0 u1 u2 u3
  have t0 := HBz.out.cell 0
  have t1 := HBz.out.cell 1
  have t2 := HBz.out.cell 2
  have t3 := HBz.out.cell 3
  simp only [List.getElem?_toArray, List.getElem?_cons_zero, List.getElem?_cons_succ, Nat.reduceAdd] at t0 t1 t2 t3
  have p0 := HPC.out.cell 0
  have p1 := HPC.out.cell 1
  have p2 := HPC.out.cell 2
  have p3 := HPC.out.cell 3
  have p4 := HPC.out.cell 4
  have p5 := HPC.out.cell 5
  have p6 := HPC.out.cell 6
  have p7 := HPC.out.cell 7
  have p8 := HPC.out.cell 8
  have p9 := HPC.out.cell 9
  have q0 := HPF.out.cell 0
  have q1 := HPF.out.cell 1
  have q2 := HPF.out.cell 2
  have q3 := HPF.out.cell 3
  have q4 := HPF.out.cell 4
  simp only [List.getElem?_toArray, List.getElem?_cons_zero, List.getElem?_cons_succ, Nat.reduceAdd] at p0 p1 p2 p3 p4 p5 p6 p7 p8 p9 q0 q1 q2 q3 q4
  have g0 := HPC.out.frozen 0
  have g1 := HPC.out.frozen 1
  have g2 := HPC.out.frozen 2
  have g3 := HPC.out.frozen 3
  have g4 := HPC.out.frozen 4
  have g5 := HPC.out.frozen 5
  have g6 := HPC.out.frozen 6
  have g7 := HPC.out.frozen 7
  have g8 := HPC.out.frozen 8
  have g9 := HPC.out.frozen 9
  have k0 := HPF.out.frozen 0
  have k1 := HPF.out.frozen 1
  have k2 := HPF.out.frozen 2
  have k3 := HPF.out.frozen 3
  have k4 := HPF.out.frozen 4
  have lC := HPC.out.lt
  have lF := HPF.out.lt
  go_wp2
  have hT1 := ft_off (call_set HPC.out (.bool true) (.int .i64 3) (.string sOne) (.slice ya yn yc) (.slice yd ye yf) (.string sM) (.int .i64 zk) (.string zs) (.slice za zn zc) (.slice zd ze zf)) (show w.heap.size ≠ w.heap.size + 1 by omega) (.int .i64 0) (.int .i64 0) (.string ⟨#[]⟩) (.slice none 0 0) (.slice none 0 0)
  have hT2 := ft_set (call_off HPF.out (show w.heap.size + 1 ≠ w.heap.size by omega) (.bool true) (.int .i64 3) (.string sOne) (.slice ya yn yc) (.slice yd ye yf) (.string sM) (.int .i64 zk) (.string zs) (.slice za zn zc) (.slice zd ze zf)) (.int .i64 0) (.int .i64 0) (.string ⟨#[]⟩) (.slice none 0 0) (.slice none 0 0)
  refine bodyPost_ret (results_cf rfl rfl rfl rfl hT1 hT2) rfl ?_
  exact ⟨⟨_, _, _, _, _, _, _, _, _, _, _, _, _, _, rfl⟩, ft_bel (call_bel HB.out (Nat.le_refl _) (.bool true) (.int .i64 3) (.string sOne) (.slice ya yn yc) (.slice yd ye yf) (.string sM) (.int .i64 zk) (.string zs) (.slice za zn zc) (.slice zd ze zf)) (Nat.le_succ _) (.int .i64 0) (.int .i64 0) (.string ⟨#[]⟩) (.slice none 0 0) (.slice none 0 0)⟩

set_option maxHeartbeats 8000000 in
theorem read7 (w : World) (ao : Option Addr) (cap : Nat) (h : Byts w (.slice ao ex7.length cap) ex7) (hU : Utf8Tabs 0 1 w) (hE : ErrS w) (hcap : ex7.length ≤ cap) :
    Calls Tryz.prog 7 #[.slice ao ex7.length cap] w fun e w' => (∃ ya yn yc yd ye yf, e = .returned (.tuple #[.agg #[.bool false, .int .i64 0, .string ⟨#[]⟩, .slice none 0 0, .slice none 0 0, .string ⟨#[]⟩, .int .i64 0, .string ⟨#[]⟩, .slice none 0 0, .slice none 0 0], .agg #[.int .i64 (-32600), .int .i64 0, .string ⟨#[]⟩, .slice ya yn yc, .slice yd ye yf], .bool false])) ∧ Below w.heap.size w w' := by
  obtain ⟨n, hn⟩ : ∃ n, ex7.length = n := ⟨_, rfl⟩
  have hb : Below w.heap.size w ((w.alloc (.cells #[.bool false, .int .i64 0, .string ⟨#[]⟩, .slice none 0 0, .slice none 0 0, .string ⟨#[]⟩, .int .i64 0, .string ⟨#[]⟩, .slice none 0 0, .slice none 0 0] 29)).alloc (.cells #[.int .i64 0, .int .i64 0, .string ⟨#[]⟩, .slice none 0 0, .slice none 0 0] 31)) := (bel w _).alloc (by simp) _
  have hp := (BoxC.new w 29 #[.bool false, .int .i64 0, .string ⟨#[]⟩, .slice none 0 0, .slice none 0 0, .string ⟨#[]⟩, .int .i64 0, .string ⟨#[]⟩, .slice none 0 0, .slice none 0 0]).alloc (.cells #[.int .i64 0, .int .i64 0, .string ⟨#[]⟩, .slice none 0 0, .slice none 0 0] 31)
  have hq := BoxC.new (w.alloc (.cells #[.bool false, .int .i64 0, .string ⟨#[]⟩, .slice none 0 0, .slice none 0 0, .string ⟨#[]⟩, .int .i64 0, .string ⟨#[]⟩, .slice none 0 0, .slice none 0 0] 29)) 31 #[.int .i64 0, .int .i64 0, .string ⟨#[]⟩, .slice none 0 0, .slice none 0 0]
  rw [World.size_alloc] at hq
  generalize hw0 : (w.alloc (.cells #[.bool false, .int .i64 0, .string ⟨#[]⟩, .slice none 0 0, .slice none 0 0, .string ⟨#[]⟩, .int .i64 0, .string ⟨#[]⟩, .slice none 0 0, .slice none 0 0] 29)).alloc (.cells #[.int .i64 0, .int .i64 0, .string ⟨#[]⟩, .slice none 0 0, .slice none 0 0] 31) = w0 at *
  have HPA := hide (parse7 w0 ao cap (h.below hb) (Utf8Tabs_below hU hb) hcap)
  rw [hn] at HPA ⊢
  have HES : Hid (∀ W, Below w.heap.size w W → ErrS W) := fun W hW => hE.below hW
  have HPC := hide hp
  have HPF := hide hq
  have HW0 := hide hw0
  have HB := hide hb
  clear hw0 hp hq hb h hU hE hcap hn
  go_enter Tryz.func7, Tryz.ntmps7
  go_upto_region 1 with fail
  rw [HW0.out]
  clear HW0
  go_wp2_with fail
  refine HPA.out.mono ?_
  rintro e w1 ⟨⟨⟨xk, xs, xK, xL⟩, rfl, hT⟩, hb9⟩
  obtain ⟨h4, h5⟩ := hT.sl
  simp only at h4 h5
  obtain ⟨xa, xn, xc, rfl⟩ := h4
  obtain ⟨xd, xe, xf, rfl⟩ := h5
  simp only [vagg]
  have HTx := hide hT
  clear hT HPA
  have HB9 := hide (HB.out.trans (hb9.mono HB.out.size))
  clear HB
  have HB := HB9
  clear HB9
  have HPC9 := hide (HPC.out.below hb9)
  clear HPC
  have HPC := HPC9
  clear HPC9
  have HPF9 := hide (HPF.out.below hb9)
  clear HPF
  have HPF := HPF9
  clear HPF9
  clear hb9
  have hb9 := bel w1 (.cells #[.int .i64 xk, .string xs, .slice xa xn xc, .slice xd xe xf] 27)
  have HBx := hide (BoxC.new w1 27 #[.int .i64 xk, .string xs, .slice xa xn xc, .slice xd xe xf])
  have HB9 := hide (HB.out.trans (hb9.mono HB.out.size))
  clear HB
  have HB := HB9
  clear HB9
  have HPC9 := hide (HPC.out.below hb9)
  clear HPC
  have HPC := HPC9
  clear HPC9
  have HPF9 := hide (HPF.out.below hb9)
  clear HPF
  have HPF := HPF9
  clear HPF9
  have HTx9 := hide (HTx.out.bel hb9)
  clear HTx
  have HTx := HTx9
  clear HTx9
  clear hb9
  go_upto_region 4 with fail
  generalize w1.heap.size = Bx at *
  generalize w1.alloc (.cells #[.int .i64 xk, .string xs, .slice xa xn xc, .slice xd xe xf] 27) = w2 at *
  have v0 := HBx.out.cell 0
  have v1 := HBx.out.cell 1
  have v2 := HBx.out.cell 2
  have v3 := HBx.out.cell 3
  simp only [List.getElem?_toArray, List.getElem?_cons_zero, List.getElem?_cons_succ, Nat.reduceAdd] at v0 v1 v2 v3
  have hcall := get_any kId w2 HTx.out tree7_lt
  rw [get7] at hcall
  unfold vagg kId at hcall
  simp only at hcall
  go_wp2_with fail
  refine (hcall).mono ?_
  rintro e w3 ⟨⟨yk, ys, yK, yL⟩, rfl, hb9, hT⟩
  rw [Option.map_none, Option.getD_none] at hT
  obtain ⟨ya, yn, yc, yd, ye, yf, hy⟩ := flat_is (x := zeroC) hT
  obtain ⟨rfl, rfl, rfl, rfl⟩ : yk = 0 ∧ ys = ⟨#[]⟩ ∧ yK = .slice ya yn yc ∧ yL = .slice yd ye yf := by
    simp only [zeroC, Prod.mk.injEq] at hy
    exact hy
  simp only [vagg, Option.isSome_none]
  clear hT hy hcall
  clear v0 v1 v2 v3
  have HB9 := hide (HB.out.trans (hb9.mono HB.out.size))
  clear HB
  have HB := HB9
  clear HB9
  have HPC9 := hide (HPC.out.below hb9)
  clear HPC
  have HPC := HPC9
  clear HPC9
  have HPF9 := hide (HPF.out.below hb9)
  clear HPF
  have HPF := HPF9
  clear HPF9
  have HTx9 := hide (HTx.out.bel hb9)
  clear HTx
  have HTx := HTx9
  clear HTx9
  have HBx9 := hide (HBx.out.below hb9)
  clear HBx
  have HBx := HBx9
  clear HBx9
  clear hb9
  have hb9 := bel w3 (.cells #[.int .i64 0, .string ⟨#[]⟩, .slice ya yn yc, .slice yd ye yf] 27)
  have HBy := hide (BoxC.new w3 27 #[.int .i64 0, .string ⟨#[]⟩, .slice ya yn yc, .slice yd ye yf])
  have HB9 := hide (HB.out.trans (hb9.mono HB.out.size))
  clear HB
  have HB := HB9
  clear HB9
  have HPC9 := hide (HPC.out.below hb9)
  clear HPC
  have HPC := HPC9
  clear HPC9
  have HPF9 := hide (HPF.out.below hb9)
  clear HPF
  have HPF := HPF9
  clear HPF9
  have HTx9 := hide (HTx.out.bel hb9)
  clear HTx
  have HTx := HTx9
  clear HTx9
  have HBx9 := hide (HBx.out.below hb9)
  clear HBx
  have HBx := HBx9
  clear HBx9
  clear hb9
  go_upto_region 5 with fail
  generalize w3.heap.size = By at *
  generalize w3.alloc (.cells #[.int .i64 0, .string ⟨#[]⟩, .slice ya yn yc, .slice yd ye yf] 27) = w4 at *
  have v0 := HBy.out.cell 0
  have v1 := HBy.out.cell 1
  have v2 := HBy.out.cell 2
  have v3 := HBy.out.cell 3
  simp only [List.getElem?_toArray, List.getElem?_cons_zero, List.getElem?_cons_succ, Nat.reduceAdd] at v0 v1 v2 v3
  go_upto_region 7 with fail
  have HLF : Hid (w.heap.size + 1 < w4.heap.size) := HPF.out.lt
  have hb9 := bel w4 (.cells #[.int .i64 (-32600), .int .i64 0, .string ⟨#[]⟩, .slice ya yn yc, .slice yd ye yf] 31)
  have HBi := hide (BoxC.new w4 31 #[.int .i64 (-32600), .int .i64 0, .string ⟨#[]⟩, .slice ya yn yc, .slice yd ye yf])
  have HB9 := hide (HB.out.trans (hb9.mono HB.out.size))
  clear HB
  have HB := HB9
  clear HB9
  have HPC9 := hide (HPC.out.below hb9)
  clear HPC
  have HPC := HPC9
  clear HPC9
  have HPF9 := hide (HPF.out.below hb9)
  clear HPF
  have HPF := HPF9
  clear HPF9
  have HTx9 := hide (HTx.out.bel hb9)
  clear HTx
  have HTx := HTx9
  clear HTx9
  have HBx9 := hide (HBx.out.below hb9)
  clear HBx
  have HBx := HBx9
  clear HBx9
  have HBy9 := hide (HBy.out.below hb9)
  clear HBy
  have HBy := HBy9
  clear HBy9
  clear hb9
  have HNI : Hid (w4.heap.size ≠ w.heap.size ∧ w4.heap.size ≠ w.heap.size + 1) := by
    have h := HLF.out
    exact ⟨by omega, by omega⟩
  go_upto_region 8 with fail
  generalize w4.heap.size = Bi at *
  generalize w4.alloc (.cells #[.int .i64 (-32600), .int .i64 0, .string ⟨#[]⟩, .slice ya yn yc, .slice yd ye yf] 31) = w6 at *
  clear v0 v1 v2 v3
  have v0 := HBx.out.cell 0
  have v1 := HBx.out.cell 1
  have v2 := HBx.out.cell 2
  have v3 := HBx.out.cell 3
  simp only [List.getElem?_toArray, List.getElem?_cons_zero, List.getElem?_cons_succ, Nat.reduceAdd] at v0 v1 v2 v3
  have hcall := hasv_any w6 _ HTx.out tree7_lt (get7 kJson) false (by rw [Option.map_none, Option.getD_none]; exact eqJ_kind (by decide))
  unfold vagg at hcall
  simp only at hcall
  go_wp2_with fail
  refine hcall.mono ?_
  rintro e w7 ⟨rfl, hb9⟩
  clear hcall
  clear v0 v1 v2 v3
  have HB9 := hide (HB.out.trans (hb9.mono HB.out.size))
  clear HB
  have HB := HB9
  clear HB9
  have HPC9 := hide (HPC.out.below hb9)
  clear HPC
  have HPC := HPC9
  clear HPC9
  have HPF9 := hide (HPF.out.below hb9)
  clear HPF
  have HPF := HPF9
  clear HPF9
  have HTx9 := hide (HTx.out.bel hb9)
  clear HTx
  have HTx := HTx9
  clear HTx9
  have HBx9 := hide (HBx.out.below hb9)
  clear HBx
  have HBx := HBx9
  clear HBx9
  have HBy9 := hide (HBy.out.below hb9)
  clear HBy
  have HBy := HBy9
  clear HBy9
  have HBi9 := hide (HBi.out.below hb9)
  clear HBi
  have HBi := HBi9
  clear HBi9
  clear hb9
  go_upto_region 9 with fail
  have HSX : Hid (∀ X0 : World, BoxC X0 Bi 31 #[.int .i64 (-32600), .int .i64 0, .string ⟨#[]⟩, .slice ya yn yc, .slice yd ye yf] → (X0.cell? ⟨Bi, 0, none⟩ = some (.int .i64 (-32600)) ∧ X0.cell? ⟨Bi, 1, none⟩ = some (.int .i64 0) ∧ X0.cell? ⟨Bi, 2, none⟩ = some (.string ⟨#[]⟩) ∧ X0.cell? ⟨Bi, 3, none⟩ = some (.slice ya yn yc) ∧ X0.cell? ⟨Bi, 4, none⟩ = some (.slice yd ye yf))) := fun X0 h => ⟨h.cell 0, h.cell 1, h.cell 2, h.cell 3, h.cell 4⟩
  refine wp_region_held_drew (S := fun X0 : World => X0.cell? ⟨Bi, 0, none⟩ = some (.int .i64 (-32600)) ∧ X0.cell? ⟨Bi, 1, none⟩ = some (.int .i64 0) ∧ X0.cell? ⟨Bi, 2, none⟩ = some (.string ⟨#[]⟩) ∧ X0.cell? ⟨Bi, 3, none⟩ = some (.slice ya yn yc) ∧ X0.cell? ⟨Bi, 4, none⟩ = some (.slice yd ye yf)) (by kernel_rfl) (HSX.out _ HBi.out) (fun hHeld => ?_)
  have HPC2 : Hid (BoxC w7.drew w.heap.size 29 #[.bool false, .int .i64 0, .string ⟨#[]⟩, .slice none 0 0, .slice none 0 0, .string ⟨#[]⟩, .int .i64 0, .string ⟨#[]⟩, .slice none 0 0, .slice none 0 0]) := HPC.out
  have HPF2 : Hid (BoxC w7.drew (w.heap.size + 1) 31 #[.int .i64 0, .int .i64 0, .string ⟨#[]⟩, .slice none 0 0, .slice none 0 0]) := HPF.out
  have HBi2 : Hid (BoxC w7.drew Bi 31 #[.int .i64 (-32600), .int .i64 0, .string ⟨#[]⟩, .slice ya yn yc, .slice yd ye yf]) := HBi.out
  have HB2 : Hid (Below w.heap.size w w7.drew) := HB.out.drew
  have HNE : Hid (Bi ≠ w.heap.size ∧ Bi ≠ w.heap.size + 1) := HNI.out
  clear HPC HPF HBi HB HBx HBy HTx
  generalize w7.drew = w8 at *
  refine takeD (i := 0) (v := ?v1) (some 43) rfl (by kernel_rfl) (by kernel_rfl) (by kernel_rfl) (fun _ _ _ h => h) (Or.inl ⟨by rfl, ?hy1⟩) (HSX.out _ HBi2.out) (by rfl) ?rest1
  case hy1 => first | (intro w hSw; (try dsimp only at hSw); obtain ⟨s0, s1, s2, s3, s4⟩ := hSw; go_simp; done) | (intro w hSw; (try dsimp only at hSw); obtain ⟨s0, s1, s2, s3, s4⟩ := hSw; go_simp; with_reducible rfl)
  try simp only [Act.put, List.setIfInBounds_toArray, List.set_cons_zero, List.set_cons_succ, vagg]
  refine takeD (i := 1) (v := ?v2) (some 44) rfl (by kernel_rfl) (by kernel_rfl) (by kernel_rfl) (fun _ _ _ h => h) (Or.inl ⟨by rfl, ?hy2⟩) (HSX.out _ HBi2.out) (by rfl) ?rest2
  case hy2 => first | (intro w hSw; (try dsimp only at hSw); obtain ⟨s0, s1, s2, s3, s4⟩ := hSw; go_simp; done) | (intro w hSw; (try dsimp only at hSw); obtain ⟨s0, s1, s2, s3, s4⟩ := hSw; go_simp; with_reducible rfl)
  try simp only [Act.put, List.setIfInBounds_toArray, List.set_cons_zero, List.set_cons_succ, vagg]
  have p0 := HPC2.out.cell 0
  have p1 := HPC2.out.cell 1
  have p2 := HPC2.out.cell 2
  have p3 := HPC2.out.cell 3
  have p4 := HPC2.out.cell 4
  have p5 := HPC2.out.cell 5
  have p6 := HPC2.out.cell 6
  have p7 := HPC2.out.cell 7
  have p8 := HPC2.out.cell 8
  have p9 := HPC2.out.cell 9
  simp only [List.getElem?_toArray, List.getElem?_cons_zero, List.getElem?_cons_succ, Nat.reduceAdd] at p0 p1 p2 p3 p4 p5 p6 p7 p8 p9
  have g0 := HPC2.out.frozen 0
  have g1 := HPC2.out.frozen 1
  have g2 := HPC2.out.frozen 2
  have g3 := HPC2.out.frozen 3
  have g4 := HPC2.out.frozen 4
  have g5 := HPC2.out.frozen 5
  have g6 := HPC2.out.frozen 6
  have g7 := HPC2.out.frozen 7
  have g8 := HPC2.out.frozen 8
  have g9 := HPC2.out.frozen 9
  have lC := HPC2.out.lt
  have hc9 := call_set HPC2.out (.bool false) (.int .i64 0) (.string ⟨#[]⟩) (.slice none 0 0) (.slice none 0 0) (.string ⟨#[]⟩) (.int .i64 0) (.string ⟨#[]⟩) (.slice none 0 0) (.slice none 0 0)
  have hf9 := call_off HPF2.out (show w.heap.size + 1 ≠ w.heap.size by omega) (.bool false) (.int .i64 0) (.string ⟨#[]⟩) (.slice none 0 0) (.slice none 0 0) (.string ⟨#[]⟩) (.int .i64 0) (.string ⟨#[]⟩) (.slice none 0 0) (.slice none 0 0)
  have hi9 := call_off HBi2.out HNE.out.1 (.bool false) (.int .i64 0) (.string ⟨#[]⟩) (.slice none 0 0) (.slice none 0 0) (.string ⟨#[]⟩) (.int .i64 0) (.string ⟨#[]⟩) (.slice none 0 0) (.slice none 0 0)
  have hb9 := call_bel HB2.out (Nat.le_refl _) (.bool false) (.int .i64 0) (.string ⟨#[]⟩) (.slice none 0 0) (.slice none 0 0) (.string ⟨#[]⟩) (.int .i64 0) (.string ⟨#[]⟩) (.slice none 0 0) (.slice none 0 0)
  have HC9 := hide hc9
  have HF9 := hide hf9
  have HI9 := hide hi9
  have HD9 := hide hb9
  clear hc9 hf9 hi9 hb9
  refine wpAnyH_ready (rs := [2]) (by kernel_rfl) (by simp) ?_
  refine AllReadyH.cons rfl (fun K9 hK => ?_) AllReadyH.nil
  go_simp
  refine hK.out _ _ (HSX.out _ HI9.out) (fun _ => ?_)
  clear hK K9 HPC2 HPF2 HBi2 HB2 lC p0 g0 p1 g1 p2 g2 p3 g3 p4 g4 p5 g5 p6 g6 p7 g7 p8 g8 p9 g9
  try simp only [Act.put, List.setIfInBounds_toArray, List.set_cons_zero, List.set_cons_succ, vagg]
  generalize ((((((((((w8.setCell ⟨w.heap.size, 0, none⟩ (.bool false)).setCell ⟨w.heap.size, 1, none⟩ (.int .i64 0)).setCell ⟨w.heap.size, 2, none⟩ (.string ⟨#[]⟩)).setCell ⟨w.heap.size, 3, none⟩ (.slice none 0 0)).setCell ⟨w.heap.size, 4, none⟩ (.slice none 0 0)).setCell ⟨w.heap.size, 5, none⟩ (.string ⟨#[]⟩)).setCell ⟨w.heap.size, 6, none⟩ (.int .i64 0)).setCell ⟨w.heap.size, 7, none⟩ (.string ⟨#[]⟩)).setCell ⟨w.heap.size, 8, none⟩ (.slice none 0 0)).setCell ⟨w.heap.size, 9, none⟩ (.slice none 0 0)) = wa at *
  have q0 := HF9.out.cell 0
  have q1 := HF9.out.cell 1
  have q2 := HF9.out.cell 2
  have q3 := HF9.out.cell 3
  have q4 := HF9.out.cell 4
  simp only [List.getElem?_toArray, List.getElem?_cons_zero, List.getElem?_cons_succ, Nat.reduceAdd] at q0 q1 q2 q3 q4
  have k0 := HF9.out.frozen 0
  have k1 := HF9.out.frozen 1
  have k2 := HF9.out.frozen 2
  have k3 := HF9.out.frozen 3
  have k4 := HF9.out.frozen 4
  have lF := HF9.out.lt
  have HCa := hide (ft_off HC9.out (show w.heap.size ≠ w.heap.size + 1 by omega) (.int .i64 (-32600)) (.int .i64 0) (.string ⟨#[]⟩) (.slice ya yn yc) (.slice yd ye yf))
  have HFa := hide (ft_set HF9.out (.int .i64 (-32600)) (.int .i64 0) (.string ⟨#[]⟩) (.slice ya yn yc) (.slice yd ye yf))
  have HIa := hide (ft_off HI9.out HNE.out.2 (.int .i64 (-32600)) (.int .i64 0) (.string ⟨#[]⟩) (.slice ya yn yc) (.slice yd ye yf))
  have HDa := hide (ft_bel HD9.out (Nat.le_succ _) (.int .i64 (-32600)) (.int .i64 0) (.string ⟨#[]⟩) (.slice ya yn yc) (.slice yd ye yf))
  refine wpAnyH_ready (rs := [3]) (by kernel_rfl) (by simp) ?_
  refine AllReadyH.cons rfl (fun K9 hK => ?_) AllReadyH.nil
  go_simp
  refine hK.out _ _ (HSX.out _ HIa.out) (fun _ => ?_)
  clear hK K9
  try simp only [Act.put, List.setIfInBounds_toArray, List.set_cons_zero, List.set_cons_succ, vagg]
  refine takeD (i := 4) (v := ?v3) (some 4) rfl (by kernel_rfl) (by kernel_rfl) (by kernel_rfl) (fun _ _ _ h => h) (Or.inl ⟨by rfl, ?hy3⟩) (HSX.out _ HIa.out) (by rfl) ?rest3
  case hy3 => first | (intro w hSw; (try dsimp only at hSw); obtain ⟨s0, s1, s2, s3, s4⟩ := hSw; go_simp; done) | (intro w hSw; (try dsimp only at hSw); obtain ⟨s0, s1, s2, s3, s4⟩ := hSw; go_simp; with_reducible rfl)
  try simp only [Act.put, List.setIfInBounds_toArray, List.set_cons_zero, List.set_cons_succ, vagg]
  refine wpAnyH_done (by kernel_rfl) ?_ _
  go_wp2
  refine bodyPost_ret (results_cf rfl rfl rfl rfl HCa.out HFa.out) rfl ?_
  exact ⟨⟨_, _, _, _, _, _, rfl⟩, HDa.out⟩

end Go.Proofs.YtbdpmpepmjpadaaGreatDoor

namespace Go.Proofs.YtbdpmpepmjpadaaGreatDoor
set_option linter.unusedVariables false
set_option linter.unusedSimpArgs false
set_option maxRecDepth 100000
open Go Go.RowKit Go.Shelf Go.Lib

set_option maxHeartbeats 8000000 in
theorem called_calls (w : World) (hU : Utf8Tabs 0 1 w) (hE : ErrS w) :
    Calls Tryz.prog 6 #[] w fun e w' => e = .returned (.bool true) ∧ Below w.heap.size w w' := by
  obtain ⟨wA, hwA⟩ : ∃ wA, w.alloc (.cells #[.int .u8 123, .int .u8 34, .int .u8 106, .int .u8 115, .int .u8 111, .int .u8 110, .int .u8 114, .int .u8 112, .int .u8 99, .int .u8 34, .int .u8 58, .int .u8 34, .int .u8 50, .int .u8 46, .int .u8 48, .int .u8 34, .int .u8 44, .int .u8 34, .int .u8 105, .int .u8 100, .int .u8 34, .int .u8 58, .int .u8 49, .int .u8 44, .int .u8 34, .int .u8 109, .int .u8 101, .int .u8 116, .int .u8 104, .int .u8 111, .int .u8 100, .int .u8 34, .int .u8 58, .int .u8 34, .int .u8 109, .int .u8 34, .int .u8 125] 5 (37, 38)) = wA := ⟨_, rfl⟩
  have hc1 : (convert 22 22 (.slice (some ⟨w.heap.size, 0, none⟩) 37 37)).run Tryz.prog (w.alloc (.cells #[.int .u8 123, .int .u8 34, .int .u8 106, .int .u8 115, .int .u8 111, .int .u8 110, .int .u8 114, .int .u8 112, .int .u8 99, .int .u8 34, .int .u8 58, .int .u8 34, .int .u8 50, .int .u8 46, .int .u8 48, .int .u8 34, .int .u8 44, .int .u8 34, .int .u8 105, .int .u8 100, .int .u8 34, .int .u8 58, .int .u8 49, .int .u8 44, .int .u8 34, .int .u8 109, .int .u8 101, .int .u8 116, .int .u8 104, .int .u8 111, .int .u8 100, .int .u8 34, .int .u8 58, .int .u8 34, .int .u8 109, .int .u8 34, .int .u8 125] 5)) = .ok (.slice (some ⟨w.heap.size, 0, none⟩) 37 37) wA := by
    rw [← hwA]
    exact run_convert_bytes_const w 22 5 #[.int .u8 123, .int .u8 34, .int .u8 106, .int .u8 115, .int .u8 111, .int .u8 110, .int .u8 114, .int .u8 112, .int .u8 99, .int .u8 34, .int .u8 58, .int .u8 34, .int .u8 50, .int .u8 46, .int .u8 48, .int .u8 34, .int .u8 44, .int .u8 34, .int .u8 105, .int .u8 100, .int .u8 34, .int .u8 58, .int .u8 49, .int .u8 44, .int .u8 34, .int .u8 109, .int .u8 101, .int .u8 116, .int .u8 104, .int .u8 111, .int .u8 100, .int .u8 34, .int .u8 58, .int .u8 34, .int .u8 109, .int .u8 34, .int .u8 125] 37 37 Tryz.underlying22 Tryz.underlying5
  have hbA : Byts wA (.slice (some ⟨w.heap.size, 0, none⟩) ex6.length 37) ex6 := by rw [← hwA]; exact byts_lit w ex6 ex6_small (37, 38)
  have bA : Below w.heap.size w wA := by rw [← hwA]; exact bel w _
  have HR1 := hide (read6 wA _ 37 hbA (Utf8Tabs_below hU bA) (hE.below bA) (by decide))
  have HBA := hide bA
  have HU := hide hU
  have HE := hide hE
  rw [show ex6.length = 37 from rfl] at HR1
  clear hwA hbA bA hU hE
  go_enter Tryz.func6, Tryz.ntmps6
  go_wp2_with fail
  refine HR1.out.mono ?_
  rintro e w1 ⟨⟨ya, yn, yc, yd, ye, yf, zk, zs, za, zn, zc, zd, ze, zf, rfl⟩, hb1⟩
  have hb2 : Below w1.heap.size w1 ((w1.alloc (.cells #[.bool true, .int .i64 3, .string sOne, .slice ya yn yc, .slice yd ye yf, .string sM, .int .i64 zk, .string zs, .slice za zn zc, .slice zd ze zf] 29)).alloc (.cells #[.int .i64 0, .int .i64 0, .string ⟨#[]⟩, .slice none 0 0, .slice none 0 0] 31)) := (bel w1 _).alloc (by simp) _
  have hx2 := (BoxC.new w1 29 #[.bool true, .int .i64 3, .string sOne, .slice ya yn yc, .slice yd ye yf, .string sM, .int .i64 zk, .string zs, .slice za zn zc, .slice zd ze zf]).alloc (.cells #[.int .i64 0, .int .i64 0, .string ⟨#[]⟩, .slice none 0 0, .slice none 0 0] 31)
  have HB2 := hide (HBA.out.trans ((hb1.trans (hb2.mono hb1.size)).mono HBA.out.size))
  have HX2 := hide hx2
  clear hb1 hb2 hx2 hc1 HR1 HBA
  go_upto_region 2 with fail
  generalize w1.heap.size = B1 at *
  generalize (w1.alloc (.cells #[.bool true, .int .i64 3, .string sOne, .slice ya yn yc, .slice yd ye yf, .string sM, .int .i64 zk, .string zs, .slice za zn zc, .slice zd ze zf] 29)).alloc (.cells #[.int .i64 0, .int .i64 0, .string ⟨#[]⟩, .slice none 0 0, .slice none 0 0] 31) = w2 at *
  obtain ⟨wB, hwB⟩ : ∃ wB, w2.alloc (.cells #[.int .u8 91, .int .u8 49, .int .u8 93] 5 (3, 4)) = wB := ⟨_, rfl⟩
  have hc2 : (convert 22 22 (.slice (some ⟨w2.heap.size, 0, none⟩) 3 3)).run Tryz.prog (w2.alloc (.cells #[.int .u8 91, .int .u8 49, .int .u8 93] 5)) = .ok (.slice (some ⟨w2.heap.size, 0, none⟩) 3 3) wB := by
    rw [← hwB]
    exact run_convert_bytes_const w2 22 5 #[.int .u8 91, .int .u8 49, .int .u8 93] 3 3 Tryz.underlying22 Tryz.underlying5
  have hbB : Byts wB (.slice (some ⟨w2.heap.size, 0, none⟩) ex7.length 3) ex7 := by rw [← hwB]; exact byts_lit w2 ex7 ex7_small (3, 4)
  have bB : Below w2.heap.size w2 wB := by rw [← hwB]; exact bel w2 _
  have HBB := hide (HB2.out.trans (bB.mono HB2.out.size))
  have HX3 := hide (HX2.out.below bB)
  have HR2 := hide (read7 wB _ 3 hbB (Utf8Tabs_below HU.out HBB.out) (HE.out.below HBB.out) (by decide))
  rw [show ex7.length = 3 from rfl] at HR2
  clear hwB hbB bB HX2 HB2
  go_wp2_with fail
  refine HR2.out.mono ?_
  rintro e w3 ⟨⟨ra, rn, rc, sa, sn, sc, rfl⟩, hb3⟩
  have hb4 : Below w3.heap.size w3 ((w3.alloc (.cells #[.bool false, .int .i64 0, .string ⟨#[]⟩, .slice none 0 0, .slice none 0 0, .string ⟨#[]⟩, .int .i64 0, .string ⟨#[]⟩, .slice none 0 0, .slice none 0 0] 29)).alloc (.cells #[.int .i64 (-32600), .int .i64 0, .string ⟨#[]⟩, .slice ra rn rc, .slice sa sn sc] 31)) := (bel w3 _).alloc (by simp) _
  have hy4 := BoxC.new (w3.alloc (.cells #[.bool false, .int .i64 0, .string ⟨#[]⟩, .slice none 0 0, .slice none 0 0, .string ⟨#[]⟩, .int .i64 0, .string ⟨#[]⟩, .slice none 0 0, .slice none 0 0] 29)) 31 #[.int .i64 (-32600), .int .i64 0, .string ⟨#[]⟩, .slice ra rn rc, .slice sa sn sc]
  rw [World.size_alloc] at hy4
  have hb34 := hb3.trans (hb4.mono hb3.size)
  have HB4 := hide (HBB.out.trans (hb34.mono HBB.out.size))
  have hx4 := HX3.out.below hb34
  clear hb3 hb4 hb34 hc2 HR2 HX3 HBB
  go_upto_region 3 with fail
  generalize w3.heap.size = B3 at *
  generalize (w3.alloc (.cells #[.bool false, .int .i64 0, .string ⟨#[]⟩, .slice none 0 0, .slice none 0 0, .string ⟨#[]⟩, .int .i64 0, .string ⟨#[]⟩, .slice none 0 0, .slice none 0 0] 29)).alloc (.cells #[.int .i64 (-32600), .int .i64 0, .string ⟨#[]⟩, .slice ra rn rc, .slice sa sn sc] 31) = w4 at *
  have v0 := hx4.cell 0
  have v5 := hx4.cell 5
  have u0 := hy4.cell 0
  have u1 := hy4.cell 1
  simp only [List.getElem?_toArray, List.getElem?_cons_zero, List.getElem?_cons_succ] at v0 v5 u0 u1
  have hs : (sM.toList == [109]) = true := by rw [toList_data]; decide
  clear hx4 hy4
  go_wp2
  go_ret
  exact ⟨rfl, HB4.out⟩

end Go.Proofs.YtbdpmpepmjpadaaGreatDoor

namespace Go.Proofs.YtbdpmpepmjpadaaGreatDoor
set_option linter.unusedVariables false
set_option linter.unusedSimpArgs false
set_option maxRecDepth 100000
open Go Go.RowKit Go.Shelf Go.Lib

/-- The reference's reader in memory: its text, where it stands, how deep, the first error and where. -/
def RQ (w : World) (R : Nat) (sv : Value) (p : Nat) (d e b : Int) : Prop := BoxC w R 80 #[sv, .int .i64 (p : Int), .int .i64 d, .int .i64 e, .int .i64 b]
theorem RQ.below {w w' : World} {R p : Nat} {sv : Value} {d e b : Int} (h : RQ w R sv p d e b) (hb : Below w.heap.size w w') : RQ w' R sv p d e b := BoxC.below h hb

set_option maxHeartbeats 4000000 in
theorem fail_yes (w : World) (R p : Nat) (sv : Value) (d b n m : Int) (h : RQ w R sv p d 0 b) :
    Calls Tryz.prog 34 #[.pointer (some ⟨R, 0, none⟩), .int .i64 n, .int .i64 m] w fun e w' => e = .returned (.tuple #[]) ∧ RQ w' R sv p d n m ∧ Fr R none w w' := by
  have c3 : w.cell? ⟨R, 3, none⟩ = some (.int .i64 0) := h.cell 3
  have c4 : w.cell? ⟨R, 4, none⟩ = some (.int .i64 b) := h.cell 4
  have f3 := h.frozen 3
  have f4 := h.frozen 4
  have lR := h.lt
  have H1 : Hid (RQ ((w.setCell ⟨R, 3, none⟩ (.int .i64 n)).setCell ⟨R, 4, none⟩ (.int .i64 m)) R sv p d n m) := (BoxC.set h 3 _).set 4 _
  have H2 : Hid (Fr R none w ((w.setCell ⟨R, 3, none⟩ (.int .i64 n)).setCell ⟨R, 4, none⟩ (.int .i64 m))) := ((Fr.refl R none w).set 3 _).set 4 _
  clear h
  go_enter Tryz.func34, Tryz.ntmps34
  go_wp2
  go_end0
  exact ⟨rfl, H1.out, H2.out⟩
set_option maxHeartbeats 4000000 in
theorem fail_no (w : World) (R p : Nat) (sv : Value) (d e0 b n m : Int) (h : RQ w R sv p d e0 b) (he : e0 ≠ 0) :
    Calls Tryz.prog 34 #[.pointer (some ⟨R, 0, none⟩), .int .i64 n, .int .i64 m] w fun e w' => e = .returned (.tuple #[]) ∧ w' = w := by
  have c3 : w.cell? ⟨R, 3, none⟩ = some (.int .i64 e0) := h.cell 3
  have lR := h.lt
  have d0 : (e0 == 0) = false := by simpa using he
  clear h he
  go_enter Tryz.func34, Tryz.ntmps34
  go_wp2
  go_end0
  exact ⟨rfl, rfl⟩

set_option maxHeartbeats 4000000 in
theorem see_yes (w : World) (R p : Nat) (d b : Int) (ao : Option Addr) (cap : Nat) (T : List Nat) (h : RQ w R (.slice ao T.length cap) p d 0 b) (hT : TxJ w R ao cap T) (hp : p < T.length) :
    Calls Tryz.prog 55 #[.pointer (some ⟨R, 0, none⟩)] w fun e w' => e = .returned (.int .i64 ((nth T p : Nat) : Int)) ∧ Below w.heap.size w w' := by
  have c0 : w.cell? ⟨R, 0, none⟩ = some (.slice ao T.length cap) := h.cell 0
  have c1 : w.cell? ⟨R, 1, none⟩ = some (.int .i64 (p : Int)) := h.cell 1
  have c3 : w.cell? ⟨R, 3, none⟩ = some (.int .i64 0) := h.cell 3
  have lR := h.lt
  have hx := nth_byt hT.byts.small p
  obtain ⟨ao', cap', e, hb, hc⟩ := hT.byts
  cases e
  obtain ⟨b', off, rfl, cx⟩ := hc p hp
  have d1 : ¬ (p : Int) ≥ (T.length : Int) := by omega
  have d2 : (p : Int) < (T.length : Int) := by omega
  have d0 : (0 : Int) ≤ (p : Int) := by omega
  generalize nth T p = x at *
  have g1 : (x : Int) ≤ 255 := by omega
  generalize T.length = tl at *
  clear h hT hp hc hb
  go_enter Tryz.func55, Tryz.ntmps55
  go_wp2
  go_quiet (fail)
  go_wp2
  go_quiet (fail)
  go_wp2
  go_ret
  exact ⟨rfl, bdrewN (bdrewN (Below.refl _ _) _) _⟩

set_option maxHeartbeats 4000000 in
theorem see_end (w : World) (R : Nat) (d b : Int) (ao : Option Addr) (cap : Nat) (T : List Nat) (h : RQ w R (.slice ao T.length cap) T.length d 0 b) :
    Calls Tryz.prog 55 #[.pointer (some ⟨R, 0, none⟩)] w fun e w' => e = .returned (.int .i64 (-1)) ∧ Below w.heap.size w w' := by
  have c0 : w.cell? ⟨R, 0, none⟩ = some (.slice ao T.length cap) := h.cell 0
  have c1 : w.cell? ⟨R, 1, none⟩ = some (.int .i64 (T.length : Int)) := h.cell 1
  have c3 : w.cell? ⟨R, 3, none⟩ = some (.int .i64 0) := h.cell 3
  have lR := h.lt
  have d1 : (T.length : Int) ≥ (T.length : Int) := by omega
  generalize T.length = tl at *
  clear h
  go_enter Tryz.func55, Tryz.ntmps55
  go_wp2
  go_quiet (fail)
  go_wp2
  go_ret
  exact ⟨rfl, bdrewN (Below.refl _ _) _⟩
set_option maxHeartbeats 4000000 in
theorem see_bad (w : World) (R p : Nat) (d e0 b : Int) (sv : Value) (h : RQ w R sv p d e0 b) (he : e0 ≠ 0) :
    Calls Tryz.prog 55 #[.pointer (some ⟨R, 0, none⟩)] w fun e w' => e = .returned (.int .i64 (-1)) ∧ Below w.heap.size w w' := by
  have c3 : w.cell? ⟨R, 3, none⟩ = some (.int .i64 e0) := h.cell 3
  have lR := h.lt
  have d0 : (e0 == 0) = false := by simpa using he
  have d1 : (e0 != 0) = true := by simpa using he
  clear h he
  go_enter Tryz.func55, Tryz.ntmps55
  go_wp2
  go_quiet (fail)
  go_wp2
  go_ret
  exact ⟨rfl, bdrewN (Below.refl _ _) _⟩

set_option maxHeartbeats 4000000 in
theorem peek_yes (w : World) (R p : Nat) (d b : Int) (ao : Option Addr) (cap : Nat) (T : List Nat) (h : RQ w R (.slice ao T.length cap) p d 0 b) (hT : TxJ w R ao cap T) (hp : p < T.length) :
    Calls Tryz.prog 56 #[.pointer (some ⟨R, 0, none⟩)] w fun e w' => e = .returned (.int .i64 ((nth T p : Nat) : Int)) ∧ Below w.heap.size w w' := by
  have c0 : w.cell? ⟨R, 0, none⟩ = some (.slice ao T.length cap) := h.cell 0
  have c1 : w.cell? ⟨R, 1, none⟩ = some (.int .i64 (p : Int)) := h.cell 1
  have c3 : w.cell? ⟨R, 3, none⟩ = some (.int .i64 0) := h.cell 3
  have lR := h.lt
  have hx := nth_byt hT.byts.small p
  obtain ⟨ao', cap', e, hb, hc⟩ := hT.byts
  cases e
  obtain ⟨b', off, rfl, cx⟩ := hc p hp
  have d1 : ¬ (p : Int) ≥ (T.length : Int) := by omega
  have d2 : (p : Int) < (T.length : Int) := by omega
  have d0 : (0 : Int) ≤ (p : Int) := by omega
  generalize nth T p = x at *
  have g1 : (x : Int) ≤ 255 := by omega
  generalize T.length = tl at *
  clear h hT hp hc hb
  go_enter Tryz.func56, Tryz.ntmps56
  go_wp2
  go_quiet (fail)
  go_wp2
  go_quiet (fail)
  go_wp2
  go_ret
  exact ⟨rfl, bdrewN (bdrewN (Below.refl _ _) _) _⟩
set_option maxHeartbeats 4000000 in
theorem peek_end (w : World) (R : Nat) (d b : Int) (ao : Option Addr) (cap : Nat) (T : List Nat) (h : RQ w R (.slice ao T.length cap) T.length d 0 b) :
    Calls Tryz.prog 56 #[.pointer (some ⟨R, 0, none⟩)] w fun e w' => e = .returned (.int .i64 (-1)) ∧ RQ w' R (.slice ao T.length cap) T.length d 11 (T.length : Int) ∧ Fr R none w w' := by
  have c0 : w.cell? ⟨R, 0, none⟩ = some (.slice ao T.length cap) := h.cell 0
  have c1 : w.cell? ⟨R, 1, none⟩ = some (.int .i64 (T.length : Int)) := h.cell 1
  have c3 : w.cell? ⟨R, 3, none⟩ = some (.int .i64 0) := h.cell 3
  have lR := h.lt
  have HH := hide h
  have d1 : (T.length : Int) ≥ (T.length : Int) := by omega
  generalize T.length = tl at *
  clear h
  go_enter Tryz.func56, Tryz.ntmps56
  go_wp2
  go_quiet (fail)
  go_wp2_with fail
  refine (fail_yes _ R tl (.slice ao tl cap) d b 11 (tl : Int) (HH.out.below (bdrewN (Below.refl _ _) _))).mono ?_
  rintro e w1 ⟨rfl, hr1, hf1⟩
  have HR := hide hr1
  have HF : Hid (Fr R none w w1) := (Fr.of (bdrewN (Below.refl _ _) _)).trans hf1 (.inl rfl)
  clear hr1 hf1
  go_wp2
  go_ret
  exact ⟨rfl, HR.out, HF.out⟩
set_option maxHeartbeats 4000000 in
theorem peek_bad (w : World) (R p : Nat) (d e0 b : Int) (sv : Value) (h : RQ w R sv p d e0 b) (he : e0 ≠ 0) :
    Calls Tryz.prog 56 #[.pointer (some ⟨R, 0, none⟩)] w fun e w' => e = .returned (.int .i64 (-1)) ∧ w' = w := by
  have c3 : w.cell? ⟨R, 3, none⟩ = some (.int .i64 e0) := h.cell 3
  have lR := h.lt
  have d0 : (e0 == 0) = false := by simpa using he
  have d1 : (e0 != 0) = true := by simpa using he
  clear h he
  go_enter Tryz.func56, Tryz.ntmps56
  go_wp2
  go_ret
  exact ⟨rfl, rfl⟩

end Go.Proofs.YtbdpmpepmjpadaaGreatDoor

namespace Go.Proofs.YtbdpmpepmjpadaaGreatDoor
set_option linter.unusedVariables false
set_option linter.unusedSimpArgs false
set_option maxRecDepth 100000
open Go Go.RowKit Go.Shelf Go.Lib

theorem RQ.at {w : World} {R p : Nat} {sv : Value} {d e b : Int} (h : RQ w R sv p d e b) : rdAt w R = p := by
  unfold rdAt
  have c1 : w.cell? ⟨R, 1, none⟩ = some (.int .i64 (p : Int)) := BoxC.cell h 1
  rw [c1]
  simp
theorem RQ.sets {w : World} {R p q : Nat} {sv : Value} {d e b : Int} (h : RQ w R sv p d e b) : RQ (w.setCell ⟨R, 1, none⟩ (.int .i64 (q : Int))) R sv q d e b := BoxC.set h 1 _

/-- How deep it may stand: no deeper than it has come. -/
def DB (d e : Int) (p : Nat) : Prop := -(p : Int) - 1 ≤ d ∧ d ≤ (p : Int) + 1 ∧ (e = 0 → -(p : Int) ≤ d ∧ d ≤ (p : Int))
theorem DB.mono {d e e' : Int} {p q : Nat} (h : DB d e p) (hq : p ≤ q) (he : e = 0 → e' = 0 ∨ True) (h0 : e' = 0 → e = 0) : DB d e' q := by
  obtain ⟨h1, h2, h3⟩ := h
  exact ⟨by omega, by omega, fun h => by have := h3 (h0 h); omega⟩
/-- Where it stands behind a call: further, and broken if it was. -/
def QA (T : List Nat) (w : World) (R : Nat) (sv : Value) (p : Nat) (e : Int) (w' : World) : Prop :=
  ∃ (p' : Nat) (d' e' b' : Int), RQ w' R sv p' d' e' b' ∧ Fr R none w w' ∧ p ≤ p' ∧ p' ≤ T.length ∧ DB d' e' p' ∧ (e ≠ 0 → e' ≠ 0)
theorem QA.trans {T : List Nat} {w w1 w2 : World} {R p p1 : Nat} {sv : Value} {e e1 : Int} (hf : Fr R none w w1) (hp : p ≤ p1) (he : e ≠ 0 → e1 ≠ 0) (h : QA T w1 R sv p1 e1 w2) : QA T w R sv p e w2 := by
  obtain ⟨p', d', e', b', h1, h2, h3, h4, h5, h6⟩ := h
  exact ⟨p', d', e', b', h1, hf.trans h2 (.inl rfl), Nat.le_trans hp h3, h4, h5, fun h => h6 (he h)⟩

/-- What see tells. -/
def SeeV (T : List Nat) (p : Nat) (e c : Int) : Prop := (c = -1 ∧ ¬ (e = 0 ∧ p < T.length)) ∨ (e = 0 ∧ p < T.length ∧ c = ((nth T p : Nat) : Int))
theorem see_any (w : World) (R p : Nat) (d e b : Int) (ao : Option Addr) (cap : Nat) (T : List Nat) (h : RQ w R (.slice ao T.length cap) p d e b) (hT : TxJ w R ao cap T) (hp : p ≤ T.length) :
    Calls Tryz.prog 55 #[.pointer (some ⟨R, 0, none⟩)] w fun r w' => ∃ c : Int, r = .returned (.int .i64 c) ∧ SeeV T p e c ∧ -1 ≤ c ∧ c ≤ 255 ∧ Below w.heap.size w w' := by
  by_cases he : e = 0
  · subst he
    by_cases hlt : p < T.length
    · refine (see_yes w R p d b ao cap T h hT hlt).mono ?_
      rintro r w' ⟨rfl, hb⟩
      have := nth_byt hT.byts.small p
      exact ⟨_, rfl, .inr ⟨rfl, hlt, rfl⟩, by omega, by omega, hb⟩
    · obtain rfl : p = T.length := by omega
      refine (see_end w R d b ao cap T h).mono ?_
      rintro r w' ⟨rfl, hb⟩
      exact ⟨_, rfl, .inl ⟨rfl, fun h => by omega⟩, by omega, by omega, hb⟩
  · refine (see_bad w R p d e b _ h he).mono ?_
    rintro r w' ⟨rfl, hb⟩
    exact ⟨_, rfl, .inl ⟨rfl, fun h => he h.1⟩, by omega, by omega, hb⟩
theorem peek_any (w : World) (R p : Nat) (d e b : Int) (ao : Option Addr) (cap : Nat) (T : List Nat) (h : RQ w R (.slice ao T.length cap) p d e b) (hT : TxJ w R ao cap T) (hp : p ≤ T.length) :
    Calls Tryz.prog 56 #[.pointer (some ⟨R, 0, none⟩)] w fun r w' => ∃ c e' b' : Int, r = .returned (.int .i64 c) ∧ RQ w' R (.slice ao T.length cap) p d e' b' ∧ Fr R none w w' ∧ -1 ≤ c ∧ c ≤ 255 ∧ ((c = -1 ∧ e' ≠ 0) ∨ (e' = 0 ∧ e = 0 ∧ p < T.length ∧ 0 ≤ c)) := by
  by_cases he : e = 0
  · subst he
    by_cases hlt : p < T.length
    · refine (peek_yes w R p d b ao cap T h hT hlt).mono ?_
      rintro r w' ⟨rfl, hb⟩
      have := nth_byt hT.byts.small p
      exact ⟨_, 0, b, rfl, h.below hb, Fr.of hb, by omega, by omega, .inr ⟨rfl, rfl, hlt, by omega⟩⟩
    · obtain rfl : p = T.length := by omega
      refine (peek_end w R d b ao cap T h).mono ?_
      rintro r w' ⟨rfl, hr, hf⟩
      exact ⟨_, 11, _, rfl, hr, hf, by omega, by omega, .inl ⟨rfl, by omega⟩⟩
  · refine (peek_bad w R p d e b _ h he).mono ?_
    rintro r w' ⟨rfl, rfl⟩
    exact ⟨_, e, b, rfl, h, Fr.refl _ _ _, by omega, by omega, .inl ⟨rfl, he⟩⟩
theorem fail_any (w : World) (R p : Nat) (d e b n m : Int) (sv : Value) (h : RQ w R sv p d e b) (hn : n ≠ 0) :
    Calls Tryz.prog 34 #[.pointer (some ⟨R, 0, none⟩), .int .i64 n, .int .i64 m] w fun r w' => ∃ e' b' : Int, r = .returned (.tuple #[]) ∧ RQ w' R sv p d e' b' ∧ Fr R none w w' ∧ e' ≠ 0 := by
  by_cases he : e = 0
  · subst he
    refine (fail_yes w R p sv d b n m h).mono ?_
    rintro r w' ⟨rfl, hr, hf⟩
    exact ⟨n, m, rfl, hr, hf, hn⟩
  · refine (fail_no w R p sv d e b n m h he).mono ?_
    rintro r w' ⟨rfl, rfl⟩
    exact ⟨e, b, rfl, h, Fr.refl _ _ _, he⟩

/-- A reader on its way: what its walks keep. -/
structure QS (T : List Nat) (w W : World) (R : Nat) (ao : Option Addr) (cap : Nat) (p : Nat) (d e b : Int) : Prop where
  rq : RQ W R (.slice ao T.length cap) p d e b
  tx : TxJ W R ao cap T
  fr : Fr R none w W
  le : p ≤ T.length
  db : DB d e p
theorem QS.go {T : List Nat} {w W W' : World} {R : Nat} {ao : Option Addr} {cap p q : Nat} {d d' e e' b b' : Int} (h : QS T w W R ao cap p d e b) (hr : RQ W' R (.slice ao T.length cap) q d' e' b') (hf : Fr R none W W') (hq : q ≤ T.length) (hd : DB d' e' q) : QS T w W' R ao cap q d' e' b' :=
  ⟨hr, h.tx.fr hf, h.fr.trans hf (.inl rfl), hq, hd⟩
theorem QS.below {T : List Nat} {w W W' : World} {R : Nat} {ao : Option Addr} {cap p : Nat} {d e b : Int} (h : QS T w W R ao cap p d e b) (hb : Below W.heap.size W W') : QS T w W' R ao cap p d e b := h.go (h.rq.below hb) (Fr.of hb) h.le h.db
theorem QS.step {T : List Nat} {w W : World} {R : Nat} {ao : Option Addr} {cap p q : Nat} {d e b : Int} (h : QS T w W R ao cap p d e b) (hpq : p ≤ q) (hq : q ≤ T.length) : QS T w (W.setCell ⟨R, 1, none⟩ (.int .i64 (q : Int))) R ao cap q d e b :=
  h.go h.rq.sets ((Fr.refl R none W).set 1 _) hq (h.db.mono hpq (fun _ => .inr trivial) (fun h => h))

set_option maxHeartbeats 8000000 in
theorem blank_any (w : World) (R p : Nat) (d e b : Int) (ao : Option Addr) (cap : Nat) (T : List Nat) (h : QS T w w R ao cap p d e b) :
    Calls Tryz.prog 32 #[.pointer (some ⟨R, 0, none⟩)] w fun r w' => r = .returned (.tuple #[]) ∧ ∃ q, p ≤ q ∧ QS T w w' R ao cap q d e b := by
  have HL := hide h.tx.len
  have HS := hide (see_any w R p d e b ao cap T h.rq h.tx h.le)
  have H0 := hide h
  clear h
  go_enter Tryz.func32, Tryz.ntmps32
  go_wp2_with fail
  refine HS.out.mono ?_
  rintro r w1 ⟨c, rfl, hc, hc1, hc2, hb1⟩
  have HI : Hid (∃ (q : Nat) (x : Int), p ≤ q ∧ Value.int .i64 c = .int .i64 x ∧ SeeV T q e x ∧ -1 ≤ x ∧ x ≤ 255 ∧ QS T w w1 R ao cap q d e b) := ⟨p, c, Nat.le_refl _, rfl, hc, hc1, hc2, H0.out.below hb1⟩
  clear hc hc1 hc2 hb1 H0 HS
  go_wp2
  go_loopw [2] (fun cv wr => ∃ (q : Nat) (x : Int), p ≤ q ∧ cv = .int .i64 x ∧ SeeV T q e x ∧ -1 ≤ x ∧ x ≤ 255 ∧ QS T w wr R ao cap q d e b) (fun _ wr => T.length - rdAt wr R)
  case atStart => exact HI.out
  case round =>
    obtain ⟨q, x, hpq, rfl, hx, hx1, hx2, hs⟩ := hrel
    have HS := hide hs
    have HPQ := hide hpq
    have HAT := hide hs.rq.at
    have HX := hide hx
    clear HI hs hpq hx
    by_cases hbl : x = 32 ∨ x = 9 ∨ x = 10 ∨ x = 13
    · have hq : e = 0 ∧ q < T.length := by
        rcases HX.out with h | h
        · have := h.1; omega
        · exact ⟨h.1, h.2.1⟩
      obtain ⟨q1, hq1⟩ : ∃ q1, q + 1 = q1 := ⟨_, rfl⟩
      have e1 : (q : Int) + 1 = (q1 : Int) := by omega
      have g1 : (q1 : Int) ≤ 1000000000 := by have := HL.out; omega
      have hs1 := HS.out.step (show q ≤ q1 by omega) (by omega)
      have HQ1 := hide (And.intro hq1 hq.2)
      have HS1 := hide hs1
      have HSE := hide (see_any _ R q1 d e b ao cap T hs1.rq hs1.tx hs1.le)
      have c1 : wr.cell? ⟨R, 1, none⟩ = some (.int .i64 (q : Int)) := HS.out.rq.cell 1
      have f1 : wr.frozen? ⟨R, 1, none⟩ = false := HS.out.rq.frozen 1
      have lR : R < wr.heap.size := HS.out.rq.lt
      clear hs1 hq hq1 HX
      rcases hbl with rfl | rfl | rfl | rfl
      all_goals
        go_wp2_with fail
        refine HSE.out.mono ?_
        rintro r w2 ⟨c, rfl, hc, hc1, hc2, hb2⟩
        have HREL : Hid (∃ (q : Nat) (x : Int), p ≤ q ∧ Value.int .i64 c = .int .i64 x ∧ SeeV T q e x ∧ -1 ≤ x ∧ x ≤ 255 ∧ QS T w w2 R ao cap q d e b) := ⟨q1, c, by have := HPQ.out; have := HQ1.out; omega, rfl, hc, hc1, hc2, HS1.out.below hb2⟩
        have HM : Hid (rdAt w2 R = q1) := (HS1.out.below hb2).rq.at
        clear hc hc1 hc2 hb2 c1 f1 lR
        go_wp2
        go_roundw
        case rel => exact HREL.out
        case measure => rw [HM.out, HAT.out]; have := HQ1.out; omega
    · have x1 : (x == 32) = false := by rw [beq_eq_false_iff_ne]; omega
      have x2 : (x == 9) = false := by rw [beq_eq_false_iff_ne]; omega
      have x3 : (x == 10) = false := by rw [beq_eq_false_iff_ne]; omega
      have x4 : (x == 13) = false := by rw [beq_eq_false_iff_ne]; omega
      clear hbl
      go_wp2
      go_end0
      exact ⟨rfl, q, HPQ.out, HS.out⟩

end Go.Proofs.YtbdpmpepmjpadaaGreatDoor

namespace Go.Proofs.YtbdpmpepmjpadaaGreatDoor
set_option linter.unusedVariables false
set_option linter.unusedSimpArgs false
set_option maxRecDepth 100000
open Go Go.RowKit Go.Shelf Go.Lib

/-- A call of the reader is over: it stands no earlier, and stays broken. -/
def QM (T : List Nat) (w : World) (R : Nat) (ao : Option Addr) (cap p : Nat) (e : Int) (w' : World) : Prop :=
  ∃ (q : Nat) (d' e' b' : Int), p ≤ q ∧ QS T w w' R ao cap q d' e' b' ∧ (e ≠ 0 → e' ≠ 0)
theorem QS.keep {T : List Nat} {w W W' : World} {R : Nat} {ao : Option Addr} {cap p : Nat} {d e e' b b' : Int} (h : QS T w W R ao cap p d e b) (hr : RQ W' R (.slice ao T.length cap) p d e' b') (hf : Fr R none W W') (he : e ≠ 0 → e' ≠ 0) : QS T w W' R ao cap p d e' b' :=
  h.go hr hf h.le (h.db.mono (Nat.le_refl _) (fun _ => .inr trivial) (fun h0 => Decidable.byContradiction fun hn => he hn h0))
theorem peek_q (w W : World) (R p : Nat) (d e b : Int) (ao : Option Addr) (cap : Nat) (T : List Nat) (h : QS T w W R ao cap p d e b) :
    Calls Tryz.prog 56 #[.pointer (some ⟨R, 0, none⟩)] W fun r w' => ∃ c e' b' : Int, r = .returned (.int .i64 c) ∧ QS T w w' R ao cap p d e' b' ∧ -1 ≤ c ∧ c ≤ 255 ∧ ((c = -1 ∧ e' ≠ 0) ∨ (e' = 0 ∧ e = 0 ∧ p < T.length ∧ 0 ≤ c)) := by
  refine (peek_any W R p d e b ao cap T h.rq h.tx h.le).mono ?_
  rintro r w' ⟨c, e', b', rfl, hr, hf, h1, h2, h3⟩
  refine ⟨c, e', b', rfl, h.keep hr hf ?_, h1, h2, h3⟩
  intro hn
  rcases h3 with h | h
  · exact h.2
  · exact absurd h.2.1 hn
theorem see_q (w W : World) (R p : Nat) (d e b : Int) (ao : Option Addr) (cap : Nat) (T : List Nat) (h : QS T w W R ao cap p d e b) :
    Calls Tryz.prog 55 #[.pointer (some ⟨R, 0, none⟩)] W fun r w' => ∃ c : Int, r = .returned (.int .i64 c) ∧ QS T w w' R ao cap p d e b ∧ SeeV T p e c ∧ -1 ≤ c ∧ c ≤ 255 := by
  refine (see_any W R p d e b ao cap T h.rq h.tx h.le).mono ?_
  rintro r w' ⟨c, rfl, h1, h2, h3, hb⟩
  exact ⟨c, rfl, h.below hb, h1, h2, h3⟩
theorem fail_q (w W : World) (R p : Nat) (d e b n m : Int) (ao : Option Addr) (cap : Nat) (T : List Nat) (h : QS T w W R ao cap p d e b) (hn : n ≠ 0) :
    Calls Tryz.prog 34 #[.pointer (some ⟨R, 0, none⟩), .int .i64 n, .int .i64 m] W fun r w' => ∃ e' b' : Int, r = .returned (.tuple #[]) ∧ QS T w w' R ao cap p d e' b' ∧ e' ≠ 0 := by
  refine (fail_any W R p d e b n m _ h.rq hn).mono ?_
  rintro r w' ⟨e', b', rfl, hr, hf, he⟩
  exact ⟨e', b', rfl, h.keep hr hf (fun _ => he), he⟩

set_option maxHeartbeats 8000000 in
theorem must_any (w W : World) (R p : Nat) (d e b c : Int) (ao : Option Addr) (cap : Nat) (T : List Nat) (h : QS T w W R ao cap p d e b) :
    Calls Tryz.prog 82 #[.pointer (some ⟨R, 0, none⟩), .int .i64 c] W fun r w' => r = .returned (.tuple #[]) ∧ QM T w R ao cap p e w' := by
  have HL := hide h.tx.len
  have HP := hide (peek_q w W R p d e b ao cap T h)
  clear h
  go_enter Tryz.func82, Tryz.ntmps82
  go_wp2_with fail
  refine HP.out.mono ?_
  rintro r w1 ⟨x, e1, b1, rfl, hq1, hx1, hx2, hx⟩
  clear HP
  have HQ := hide hq1
  have HX := hide hx
  have c3 : w1.cell? ⟨R, 3, none⟩ = some (.int .i64 e1) := hq1.rq.cell 3
  have c1 : w1.cell? ⟨R, 1, none⟩ = some (.int .i64 (p : Int)) := hq1.rq.cell 1
  have f1 : w1.frozen? ⟨R, 1, none⟩ = false := hq1.rq.frozen 1
  have lR : R < w1.heap.size := hq1.rq.lt
  clear hq1 hx
  by_cases he : e1 = 0
  · subst he
    have h0 : e = 0 ∧ p < T.length := by
      rcases HX.out with h | h
      · exact absurd rfl h.2
      · exact ⟨h.2.1, h.2.2.1⟩
    have H0 := hide h0
    have g0 : (p : Int) ≤ 1000000 := by have := HL.out; omega
    clear h0
    obtain ⟨p1, hp1⟩ : ∃ p1, p + 1 = p1 := ⟨_, rfl⟩
    have e2 : (p : Int) + 1 = (p1 : Int) := by omega
    have HP1 := hide hp1
    clear hp1
    by_cases hc : x = c
    · subst hc
      have d1 : (x != x) = false := by simp
      have HE := hide (HQ.out.step (q := p1) (by have := HP1.out; omega) (by have := HP1.out; have := H0.out; omega))
      go_wp2
      go_end0
      exact ⟨rfl, p1, _, _, _, by have := HP1.out; omega, HE.out, fun h => absurd H0.out.1 h⟩
    · have d1 : (x != c) = true := by simpa using hc
      go_wp2_with fail
      refine (fail_q w w1 R p d 0 b1 6 (p : Int) ao cap T HQ.out (by omega)).mono ?_
      rintro r w2 ⟨e2, b2, rfl, hq2, he2⟩
      have HQ2 := hide hq2
      have HE2 := hide he2
      have c3 : w2.cell? ⟨R, 3, none⟩ = some (.int .i64 e2) := hq2.rq.cell 3
      have lR : R < w2.heap.size := hq2.rq.lt
      have d2 : (e2 == 0) = false := by simpa using he2
      clear hq2 he2
      go_wp2
      go_end0
      exact ⟨rfl, p, _, _, _, Nat.le_refl _, HQ2.out, fun _ => HE2.out⟩
  · have d1 : (e1 == 0) = false := by simpa using he
    have HE := hide he
    clear he
    go_wp2
    go_end0
    exact ⟨rfl, p, _, _, _, Nat.le_refl _, HQ.out, fun _ => HE.out⟩

end Go.Proofs.YtbdpmpepmjpadaaGreatDoor

namespace Go.Proofs.YtbdpmpepmjpadaaGreatDoor
set_option linter.unusedVariables false
set_option linter.unusedSimpArgs false
set_option maxRecDepth 100000
open Go Go.RowKit Go.Shelf Go.Lib

theorem blank_q (w W : World) (R p : Nat) (d e b : Int) (ao : Option Addr) (cap : Nat) (T : List Nat) (h : QS T w W R ao cap p d e b) :
    Calls Tryz.prog 32 #[.pointer (some ⟨R, 0, none⟩)] W fun r w' => r = .returned (.tuple #[]) ∧ ∃ q, p ≤ q ∧ QS T w w' R ao cap q d e b := by
  refine (blank_any W R p d e b ao cap T ⟨h.rq, h.tx, Fr.refl _ _ _, h.le, h.db⟩).mono ?_
  rintro r w' ⟨rfl, q, hq, hs⟩
  exact ⟨rfl, q, hq, ⟨hs.rq, hs.tx, h.fr.trans hs.fr (.inl rfl), hs.le, hs.db⟩⟩

set_option maxHeartbeats 8000000 in
theorem digits_any (w W : World) (R p : Nat) (d e b : Int) (ao : Option Addr) (cap : Nat) (T : List Nat) (h : QS T w W R ao cap p d e b) :
    Calls Tryz.prog 85 #[.pointer (some ⟨R, 0, none⟩)] W fun r w' => r = .returned (.tuple #[]) ∧ QM T w R ao cap p e w' := by
  have HL := hide h.tx.len
  have HQ0 := hide h
  clear h
  go_enter Tryz.func85, Tryz.ntmps85
  go_wp2_with fail
  refine (peek_q w W R p d e b ao cap T HQ0.out).mono ?_
  rintro r W1 ⟨x1, e1, b1, rfl, hq, h1_1, h2_1, hx⟩
  have HQ1 := hide hq
  have HX1 := hide hx
  clear hq hx
  have c1_1 : W1.cell? ⟨R, 1, none⟩ = some (.int .i64 (p : Int)) := HQ1.out.rq.cell 1
  have c3_1 : W1.cell? ⟨R, 3, none⟩ = some (.int .i64 e1) := HQ1.out.rq.cell 3
  have lR_1 : R < W1.heap.size := HQ1.out.rq.lt
  by_cases he : e1 = 0
  · subst he
    have E0 : Hid (e = 0) := by
      rcases HX1.out with h | h
      · exact absurd rfl h.2
      · exact hide h.2.1
    by_cases hd : 48 ≤ x1 ∧ x1 ≤ 57
    · have d1 : ¬ x1 < 48 := by omega
      have d2 : ¬ x1 > 57 := by omega
      clear hd HX1
      go_wp2_with fail
      refine (see_q w W1 R p d 0 b1 ao cap T HQ1.out).mono ?_
      rintro r W2 ⟨x2, rfl, hq, hx, h1_2, h2_2⟩
      have HQ2 := hide hq
      have HX2 := hide hx
      clear hq hx
      have HI : Hid (∃ (q : Nat) (x : Int), p ≤ q ∧ Value.int .i64 x2 = .int .i64 x ∧ SeeV T q 0 x ∧ -1 ≤ x ∧ x ≤ 255 ∧ QS T w W2 R ao cap q d 0 b1) := ⟨p, x2, Nat.le_refl _, rfl, HX2.out, h1_2, h2_2, HQ2.out⟩
      clear HQ2 HX2 h1_2 h2_2
      go_wp2
      go_loopw [2] (fun cv wr => ∃ (q : Nat) (x : Int), p ≤ q ∧ cv = .int .i64 x ∧ SeeV T q 0 x ∧ -1 ≤ x ∧ x ≤ 255 ∧ QS T w wr R ao cap q d 0 b1) (fun _ wr => T.length - rdAt wr R)
      case atStart => exact HI.out
      case round =>
        obtain ⟨q, x, hpq, rfl, hx, hx1, hx2, hs⟩ := hrel
        have HS := hide hs
        have HPQ := hide hpq
        have HAT := hide hs.rq.at
        have HX := hide hx
        clear HI hs hpq hx
        by_cases hbl : 48 ≤ x ∧ x ≤ 57
        · have hq : 0 = (0 : Int) ∧ q < T.length := by
            rcases HX.out with h | h
            · have := h.1; omega
            · exact ⟨h.1, h.2.1⟩
          have LT := hide hq.2
          clear hq
          obtain ⟨hb1, hb2⟩ := hbl
          have c1_2 : wr.cell? ⟨R, 1, none⟩ = some (.int .i64 (q : Int)) := HS.out.rq.cell 1
          have f1_2 : wr.frozen? ⟨R, 1, none⟩ = false := HS.out.rq.frozen 1
          have lR_2 : R < wr.heap.size := HS.out.rq.lt
          obtain ⟨q3, hq3⟩ : ∃ qz, q + 1 = qz := ⟨_, rfl⟩
          have e1_3 : (q : Int) + 1 = (q3 : Int) := by omega
          have g3 : (q : Int) ≤ 1000000 := by have := HL.out; have := HS.out.le; omega
          have HP3 := hide hq3
          clear hq3
          have HQ3 := hide (HS.out.step (q := q3) (by have := HP3.out; omega) (by have := HP3.out; have := LT.out; omega))
          clear HX
          go_wp2_with fail
          refine (see_q w (wr.setCell ⟨R, 1, none⟩ (.int .i64 (q3 : Int))) R q3 d 0 b1 ao cap T HQ3.out).mono ?_
          rintro r W4 ⟨x4, rfl, hq, hx, h1_4, h2_4⟩
          have HQ4 := hide hq
          have HX4 := hide hx
          clear hq hx
          have HREL : Hid (∃ (q : Nat) (x : Int), p ≤ q ∧ Value.int .i64 x4 = .int .i64 x ∧ SeeV T q 0 x ∧ -1 ≤ x ∧ x ≤ 255 ∧ QS T w W4 R ao cap q d 0 b1) := ⟨q3, x4, by have := HPQ.out; have := HP3.out; omega, rfl, HX4.out, h1_4, h2_4, HQ4.out⟩
          have HM : Hid (rdAt W4 R = q3) := HQ4.out.rq.at
          clear HQ4 HX4 h1_4 h2_4
          go_wp2
          go_roundw
          case rel => exact HREL.out
          case measure => rw [HM.out, HAT.out]; have := HP3.out; have := LT.out; omega
        · by_cases hx3 : 48 ≤ x
          · have hx4 : ¬ x ≤ 57 := by omega
            clear hbl
            go_wp2
            go_end0
            exact ⟨rfl, q, _, _, _, HPQ.out, HS.out, fun h => absurd E0.out h⟩
          · skip
            clear hbl
            go_wp2
            go_end0
            exact ⟨rfl, q, _, _, _, HPQ.out, HS.out, fun h => absurd E0.out h⟩
    · by_cases d1 : x1 < 48
      · skip
        clear hd HX1
        go_wp2_with fail
        refine (fail_q w W1 R p d 0 b1 6 (p : Int) ao cap T HQ1.out (by omega)).mono ?_
        rintro r W2 ⟨e2, b2, rfl, hq, he⟩
        have HQ2 := hide hq
        have HE2 := hide he
        have dn2 : (e2 == 0) = false := by simpa using he
        have dm2 : (e2 != 0) = true := by simpa using he
        clear hq he
        go_wp2_with fail
        refine (see_q w W2 R p d e2 b2 ao cap T HQ2.out).mono ?_
        rintro r W3 ⟨x3, rfl, hq, hx, h1_3, h2_3⟩
        have HQ3 := hide hq
        have HX3 := hide hx
        clear hq hx
        have HI : Hid (∃ (q : Nat) (x : Int), p ≤ q ∧ Value.int .i64 x3 = .int .i64 x ∧ SeeV T q e2 x ∧ -1 ≤ x ∧ x ≤ 255 ∧ QS T w W3 R ao cap q d e2 b2) := ⟨p, x3, Nat.le_refl _, rfl, HX3.out, h1_3, h2_3, HQ3.out⟩
        clear HQ3 HX3 h1_3 h2_3
        go_wp2
        go_loopw [2] (fun cv wr => ∃ (q : Nat) (x : Int), p ≤ q ∧ cv = .int .i64 x ∧ SeeV T q e2 x ∧ -1 ≤ x ∧ x ≤ 255 ∧ QS T w wr R ao cap q d e2 b2) (fun _ wr => T.length - rdAt wr R)
        case atStart => exact HI.out
        case round =>
          obtain ⟨q, x, hpq, rfl, hx, hx1, hx2, hs⟩ := hrel
          have HS := hide hs
          have HPQ := hide hpq
          have HAT := hide hs.rq.at
          have HX := hide hx
          clear HI hs hpq hx
          by_cases hbl : 48 ≤ x ∧ x ≤ 57
          · have hq : e2 = (0 : Int) ∧ q < T.length := by
              rcases HX.out with h | h
              · have := h.1; omega
              · exact ⟨h.1, h.2.1⟩
            have LT := hide hq.2
            clear hq
            obtain ⟨hb1, hb2⟩ := hbl
            have c1_3 : wr.cell? ⟨R, 1, none⟩ = some (.int .i64 (q : Int)) := HS.out.rq.cell 1
            have f1_3 : wr.frozen? ⟨R, 1, none⟩ = false := HS.out.rq.frozen 1
            have lR_3 : R < wr.heap.size := HS.out.rq.lt
            obtain ⟨q4, hq4⟩ : ∃ qz, q + 1 = qz := ⟨_, rfl⟩
            have e1_4 : (q : Int) + 1 = (q4 : Int) := by omega
            have g4 : (q : Int) ≤ 1000000 := by have := HL.out; have := HS.out.le; omega
            have HP4 := hide hq4
            clear hq4
            have HQ4 := hide (HS.out.step (q := q4) (by have := HP4.out; omega) (by have := HP4.out; have := LT.out; omega))
            clear HX
            go_wp2_with fail
            refine (see_q w (wr.setCell ⟨R, 1, none⟩ (.int .i64 (q4 : Int))) R q4 d e2 b2 ao cap T HQ4.out).mono ?_
            rintro r W5 ⟨x5, rfl, hq, hx, h1_5, h2_5⟩
            have HQ5 := hide hq
            have HX5 := hide hx
            clear hq hx
            have HREL : Hid (∃ (q : Nat) (x : Int), p ≤ q ∧ Value.int .i64 x5 = .int .i64 x ∧ SeeV T q e2 x ∧ -1 ≤ x ∧ x ≤ 255 ∧ QS T w W5 R ao cap q d e2 b2) := ⟨q4, x5, by have := HPQ.out; have := HP4.out; omega, rfl, HX5.out, h1_5, h2_5, HQ5.out⟩
            have HM : Hid (rdAt W5 R = q4) := HQ5.out.rq.at
            clear HQ5 HX5 h1_5 h2_5
            go_wp2
            go_roundw
            case rel => exact HREL.out
            case measure => rw [HM.out, HAT.out]; have := HP4.out; have := LT.out; omega
          · by_cases hx3 : 48 ≤ x
            · have hx4 : ¬ x ≤ 57 := by omega
              clear hbl
              go_wp2
              go_end0
              exact ⟨rfl, q, _, _, _, HPQ.out, HS.out, fun h => HE2.out⟩
            · skip
              clear hbl
              go_wp2
              go_end0
              exact ⟨rfl, q, _, _, _, HPQ.out, HS.out, fun h => HE2.out⟩
      · have d2 : x1 > 57 := by omega
        clear hd HX1
        go_wp2_with fail
        refine (fail_q w W1 R p d 0 b1 6 (p : Int) ao cap T HQ1.out (by omega)).mono ?_
        rintro r W2 ⟨e2, b2, rfl, hq, he⟩
        have HQ2 := hide hq
        have HE2 := hide he
        have dn2 : (e2 == 0) = false := by simpa using he
        have dm2 : (e2 != 0) = true := by simpa using he
        clear hq he
        go_wp2_with fail
        refine (see_q w W2 R p d e2 b2 ao cap T HQ2.out).mono ?_
        rintro r W3 ⟨x3, rfl, hq, hx, h1_3, h2_3⟩
        have HQ3 := hide hq
        have HX3 := hide hx
        clear hq hx
        have HI : Hid (∃ (q : Nat) (x : Int), p ≤ q ∧ Value.int .i64 x3 = .int .i64 x ∧ SeeV T q e2 x ∧ -1 ≤ x ∧ x ≤ 255 ∧ QS T w W3 R ao cap q d e2 b2) := ⟨p, x3, Nat.le_refl _, rfl, HX3.out, h1_3, h2_3, HQ3.out⟩
        clear HQ3 HX3 h1_3 h2_3
        go_wp2
        go_loopw [2] (fun cv wr => ∃ (q : Nat) (x : Int), p ≤ q ∧ cv = .int .i64 x ∧ SeeV T q e2 x ∧ -1 ≤ x ∧ x ≤ 255 ∧ QS T w wr R ao cap q d e2 b2) (fun _ wr => T.length - rdAt wr R)
        case atStart => exact HI.out
        case round =>
          obtain ⟨q, x, hpq, rfl, hx, hx1, hx2, hs⟩ := hrel
          have HS := hide hs
          have HPQ := hide hpq
          have HAT := hide hs.rq.at
          have HX := hide hx
          clear HI hs hpq hx
          by_cases hbl : 48 ≤ x ∧ x ≤ 57
          · have hq : e2 = (0 : Int) ∧ q < T.length := by
              rcases HX.out with h | h
              · have := h.1; omega
              · exact ⟨h.1, h.2.1⟩
            have LT := hide hq.2
            clear hq
            obtain ⟨hb1, hb2⟩ := hbl
            have c1_3 : wr.cell? ⟨R, 1, none⟩ = some (.int .i64 (q : Int)) := HS.out.rq.cell 1
            have f1_3 : wr.frozen? ⟨R, 1, none⟩ = false := HS.out.rq.frozen 1
            have lR_3 : R < wr.heap.size := HS.out.rq.lt
            obtain ⟨q4, hq4⟩ : ∃ qz, q + 1 = qz := ⟨_, rfl⟩
            have e1_4 : (q : Int) + 1 = (q4 : Int) := by omega
            have g4 : (q : Int) ≤ 1000000 := by have := HL.out; have := HS.out.le; omega
            have HP4 := hide hq4
            clear hq4
            have HQ4 := hide (HS.out.step (q := q4) (by have := HP4.out; omega) (by have := HP4.out; have := LT.out; omega))
            clear HX
            go_wp2_with fail
            refine (see_q w (wr.setCell ⟨R, 1, none⟩ (.int .i64 (q4 : Int))) R q4 d e2 b2 ao cap T HQ4.out).mono ?_
            rintro r W5 ⟨x5, rfl, hq, hx, h1_5, h2_5⟩
            have HQ5 := hide hq
            have HX5 := hide hx
            clear hq hx
            have HREL : Hid (∃ (q : Nat) (x : Int), p ≤ q ∧ Value.int .i64 x5 = .int .i64 x ∧ SeeV T q e2 x ∧ -1 ≤ x ∧ x ≤ 255 ∧ QS T w W5 R ao cap q d e2 b2) := ⟨q4, x5, by have := HPQ.out; have := HP4.out; omega, rfl, HX5.out, h1_5, h2_5, HQ5.out⟩
            have HM : Hid (rdAt W5 R = q4) := HQ5.out.rq.at
            clear HQ5 HX5 h1_5 h2_5
            go_wp2
            go_roundw
            case rel => exact HREL.out
            case measure => rw [HM.out, HAT.out]; have := HP4.out; have := LT.out; omega
          · by_cases hx3 : 48 ≤ x
            · have hx4 : ¬ x ≤ 57 := by omega
              clear hbl
              go_wp2
              go_end0
              exact ⟨rfl, q, _, _, _, HPQ.out, HS.out, fun h => HE2.out⟩
            · skip
              clear hbl
              go_wp2
              go_end0
              exact ⟨rfl, q, _, _, _, HPQ.out, HS.out, fun h => HE2.out⟩
  · have d1 : (e1 == 0) = false := by simpa using he
    have HE := hide he
    clear he HX1
    go_wp2_with fail
    refine (see_q w W1 R p d e1 b1 ao cap T HQ1.out).mono ?_
    rintro r W2 ⟨x2, rfl, hq, hx, h1_2, h2_2⟩
    have HQ2 := hide hq
    have HX2 := hide hx
    clear hq hx
    have HI : Hid (∃ (q : Nat) (x : Int), p ≤ q ∧ Value.int .i64 x2 = .int .i64 x ∧ SeeV T q e1 x ∧ -1 ≤ x ∧ x ≤ 255 ∧ QS T w W2 R ao cap q d e1 b1) := ⟨p, x2, Nat.le_refl _, rfl, HX2.out, h1_2, h2_2, HQ2.out⟩
    clear HQ2 HX2 h1_2 h2_2
    go_wp2
    go_loopw [2] (fun cv wr => ∃ (q : Nat) (x : Int), p ≤ q ∧ cv = .int .i64 x ∧ SeeV T q e1 x ∧ -1 ≤ x ∧ x ≤ 255 ∧ QS T w wr R ao cap q d e1 b1) (fun _ wr => T.length - rdAt wr R)
    case atStart => exact HI.out
    case round =>
      obtain ⟨q, x, hpq, rfl, hx, hx1, hx2, hs⟩ := hrel
      have HS := hide hs
      have HPQ := hide hpq
      have HAT := hide hs.rq.at
      have HX := hide hx
      clear HI hs hpq hx
      by_cases hbl : 48 ≤ x ∧ x ≤ 57
      · have hq : e1 = (0 : Int) ∧ q < T.length := by
          rcases HX.out with h | h
          · have := h.1; omega
          · exact ⟨h.1, h.2.1⟩
        have LT := hide hq.2
        clear hq
        obtain ⟨hb1, hb2⟩ := hbl
        have c1_2 : wr.cell? ⟨R, 1, none⟩ = some (.int .i64 (q : Int)) := HS.out.rq.cell 1
        have f1_2 : wr.frozen? ⟨R, 1, none⟩ = false := HS.out.rq.frozen 1
        have lR_2 : R < wr.heap.size := HS.out.rq.lt
        obtain ⟨q3, hq3⟩ : ∃ qz, q + 1 = qz := ⟨_, rfl⟩
        have e1_3 : (q : Int) + 1 = (q3 : Int) := by omega
        have g3 : (q : Int) ≤ 1000000 := by have := HL.out; have := HS.out.le; omega
        have HP3 := hide hq3
        clear hq3
        have HQ3 := hide (HS.out.step (q := q3) (by have := HP3.out; omega) (by have := HP3.out; have := LT.out; omega))
        clear HX
        go_wp2_with fail
        refine (see_q w (wr.setCell ⟨R, 1, none⟩ (.int .i64 (q3 : Int))) R q3 d e1 b1 ao cap T HQ3.out).mono ?_
        rintro r W4 ⟨x4, rfl, hq, hx, h1_4, h2_4⟩
        have HQ4 := hide hq
        have HX4 := hide hx
        clear hq hx
        have HREL : Hid (∃ (q : Nat) (x : Int), p ≤ q ∧ Value.int .i64 x4 = .int .i64 x ∧ SeeV T q e1 x ∧ -1 ≤ x ∧ x ≤ 255 ∧ QS T w W4 R ao cap q d e1 b1) := ⟨q3, x4, by have := HPQ.out; have := HP3.out; omega, rfl, HX4.out, h1_4, h2_4, HQ4.out⟩
        have HM : Hid (rdAt W4 R = q3) := HQ4.out.rq.at
        clear HQ4 HX4 h1_4 h2_4
        go_wp2
        go_roundw
        case rel => exact HREL.out
        case measure => rw [HM.out, HAT.out]; have := HP3.out; have := LT.out; omega
      · by_cases hx3 : 48 ≤ x
        · have hx4 : ¬ x ≤ 57 := by omega
          clear hbl
          go_wp2
          go_end0
          exact ⟨rfl, q, _, _, _, HPQ.out, HS.out, fun h => HE.out⟩
        · skip
          clear hbl
          go_wp2
          go_end0
          exact ⟨rfl, q, _, _, _, HPQ.out, HS.out, fun h => HE.out⟩

end Go.Proofs.YtbdpmpepmjpadaaGreatDoor

namespace Go.Proofs.YtbdpmpepmjpadaaGreatDoor
set_option linter.unusedVariables false
set_option linter.unusedSimpArgs false
set_option maxRecDepth 100000
open Go Go.RowKit Go.Shelf Go.Lib

/-- As many numbers as so many digits of base 16 tell. -/
def hexB (i : Nat) : Int := 16 ^ i
theorem hexB_succ (i : Nat) : hexB (i + 1) = 16 * hexB i := by unfold hexB; rw [Int.pow_succ]; omega
theorem hexB_le (i : Nat) (h : i ≤ 4) : hexB i ≤ 65536 := by
  match i, h with
  | 0, _ => decide
  | 1, _ => decide
  | 2, _ => decide
  | 3, _ => decide
  | 4, _ => decide

set_option maxHeartbeats 16000000 in
theorem hex_any (w W : World) (R p : Nat) (d e b : Int) (ao : Option Addr) (cap : Nat) (T : List Nat) (h : QS T w W R ao cap p d e b) :
    Calls Tryz.prog 101 #[.pointer (some ⟨R, 0, none⟩)] W fun r w' => ∃ m : Int, (r = .returned (.int .i64 m) ∧ 0 ≤ m ∧ m ≤ 65535) ∧ QM T w R ao cap p e w' := by
  have HL := hide h.tx.len
  have HQ0 := hide h
  clear h
  go_enter Tryz.func101, Tryz.ntmps101
  have HI : Hid (∃ (i q : Nat) (m e' b' : Int), Value.int .i64 0 = .int .i64 m ∧ Value.int .i64 0 = .int .i64 (i : Int) ∧ i ≤ 4 ∧ 0 ≤ m ∧ m + 1 ≤ hexB i ∧ p ≤ q ∧ (e ≠ 0 → e' ≠ 0) ∧ QS T w W R ao cap q d e' b') := ⟨0, p, 0, e, b, rfl, rfl, by omega, by omega, by decide, Nat.le_refl _, fun h => h, HQ0.out⟩
  clear HQ0
  go_wp2
  go_loopw [3, 4] (fun nv iv wr => ∃ (i q : Nat) (m e' b' : Int), nv = .int .i64 m ∧ iv = .int .i64 (i : Int) ∧ i ≤ 4 ∧ 0 ≤ m ∧ m + 1 ≤ hexB i ∧ p ≤ q ∧ (e ≠ 0 → e' ≠ 0) ∧ QS T w wr R ao cap q d e' b') (fun _ iv _ => 4 - (RowKit.intOf iv).toNat)
  case atStart => exact HI.out
  case round =>
    obtain ⟨i, q, m, e0, b0, rfl, rfl, hi, hm0, hm1, hpq, hee, hs⟩ := hrel
    have HS := hide hs
    have HPQ := hide hpq
    have HEE := hide hee
    have HB := hide hm1
    clear HI hs hpq hee hm1
    by_cases hi4 : i = 4
    · subst hi4
      have hmm : m ≤ 65535 := by have := HB.out; have := hexB_le 4 (by omega); omega
      go_wp2
      go_ret
      exact ⟨m, ⟨rfl, hm0, hmm⟩, q, _, _, _, HPQ.out, HS.out, HEE.out⟩
    · have i1 : (i : Int) < 4 := by omega
      have hm2 : m ≤ 4095 := by have := HB.out; have := hexB_succ i; have := hexB_le (i + 1) (by omega); omega
      obtain ⟨j, hj⟩ : ∃ j, i + 1 = j := ⟨_, rfl⟩
      have ej : (i : Int) + 1 = (j : Int) := by omega
      have HJ := hide hj
      clear hj hi4
      go_wp2_with fail
      refine (peek_q w wr R q d e0 b0 ao cap T HS.out).mono ?_
      rintro r W1 ⟨x1, e1, b1, rfl, hq, h1_1, h2_1, hx⟩
      have HQ1 := hide hq
      have HX1 := hide hx
      clear hq hx
      have c1_1 : W1.cell? ⟨R, 1, none⟩ = some (.int .i64 (q : Int)) := HQ1.out.rq.cell 1
      have c3_1 : W1.cell? ⟨R, 3, none⟩ = some (.int .i64 e1) := HQ1.out.rq.cell 3
      have f1_1 : W1.frozen? ⟨R, 1, none⟩ = false := HQ1.out.rq.frozen 1
      have lR_1 : R < W1.heap.size := HQ1.out.rq.lt
      by_cases he : e1 = 0
      · subst he
        have LT : Hid (q < T.length) := by
          rcases HX1.out with h | h
          · exact absurd rfl h.2
          · exact hide h.2.2.1
        have E0 : Hid (e = 0) := by
          rcases HX1.out with h | h
          · exact absurd rfl h.2
          · exact hide (Decidable.byContradiction fun hn => HEE.out hn h.2.1)
        have X0 : 0 ≤ x1 := by
          rcases HX1.out with h | h
          · exact absurd rfl h.2
          · exact h.2.2.2
        clear HX1
        by_cases k1 : x1 < 48
        · skip
          have a0 : ¬ x1 ≥ 48 := by omega
          have a1 : ¬ x1 ≥ 97 := by omega
          have a2 : ¬ x1 ≥ 65 := by omega
          go_wp2_with fail
          refine (fail_q w W1 R q d 0 b1 6 (q : Int) ao cap T HQ1.out (by omega)).mono ?_
          rintro r W2 ⟨e2, b2, rfl, hq, he⟩
          have HQ2 := hide hq
          have HE2 := hide he
          have dn2 : (e2 == 0) = false := by simpa using he
          have dm2 : (e2 != 0) = true := by simpa using he
          clear hq he
          have c3_2 : W2.cell? ⟨R, 3, none⟩ = some (.int .i64 e2) := HQ2.out.rq.cell 3
          have lR_2 : R < W2.heap.size := HQ2.out.rq.lt
          go_wp2
          go_ret
          exact ⟨0, ⟨rfl, by omega, by omega⟩, q, _, _, _, HPQ.out, HQ2.out, fun _ => HE2.out⟩
        · by_cases k2 : x1 ≤ 57
          · skip
            have a0 : x1 ≥ 48 := by omega
            have a1 : ¬ x1 ≥ 97 := by omega
            have a2 : ¬ x1 ≥ 65 := by omega
            obtain ⟨y, hy⟩ : ∃ y, x1 - 48 = y := ⟨_, rfl⟩
            have y1 : 0 ≤ y := by omega
            have y2 : y ≤ 15 := by omega
            have y3 : ¬ y < 0 := by omega
            obtain ⟨mm, hmm⟩ : ∃ mm, m * 16 = mm := ⟨_, rfl⟩
            obtain ⟨m2, hm2b⟩ : ∃ m2, mm + y = m2 := ⟨_, rfl⟩
            have HM2 : Hid (0 ≤ m2 ∧ m2 + 1 ≤ hexB j) := by
              have h1 := HB.out; have h2 := hexB_succ i; rw [HJ.out] at h2
              refine hide ⟨?_, ?_⟩ <;> omega
            have m3 : mm ≤ 65520 := by omega
            have m4 : 0 ≤ mm := by omega
            obtain ⟨q2, hq2⟩ : ∃ qz, q + 1 = qz := ⟨_, rfl⟩
            have e1_2 : (q : Int) + 1 = (q2 : Int) := by omega
            have g2 : (q : Int) ≤ 1000000 := by have := HL.out; have := HQ1.out.le; omega
            have HP2 := hide hq2
            clear hq2
            have HQ2 := hide (HQ1.out.step (q := q2) (by have := HP2.out; omega) (by have := HP2.out; have := LT.out; omega))
            have HREL : Hid (∃ (i q : Nat) (m e' b' : Int), Value.int .i64 m2 = .int .i64 m ∧ Value.int .i64 (j : Int) = .int .i64 (i : Int) ∧ i ≤ 4 ∧ 0 ≤ m ∧ m + 1 ≤ hexB i ∧ p ≤ q ∧ (e ≠ 0 → e' ≠ 0) ∧ QS T w (W1.setCell ⟨R, 1, none⟩ (.int .i64 (q2 : Int))) R ao cap q d e' b') := ⟨j, q2, m2, 0, b1, rfl, rfl, by omega, HM2.out.1, HM2.out.2, by have := HPQ.out; have := HP2.out; omega, fun h => absurd E0.out h, HQ2.out⟩
            go_wp2
            go_roundw
            case rel => exact HREL.out
            case measure => simp only [RowKit.intOf]; omega
          · by_cases k3 : x1 < 65
            · skip
              have a0 : x1 ≥ 48 := by omega
              have a1 : ¬ x1 ≥ 97 := by omega
              have a2 : ¬ x1 ≥ 65 := by omega
              go_wp2_with fail
              refine (fail_q w W1 R q d 0 b1 6 (q : Int) ao cap T HQ1.out (by omega)).mono ?_
              rintro r W2 ⟨e2, b2, rfl, hq, he⟩
              have HQ2 := hide hq
              have HE2 := hide he
              have dn2 : (e2 == 0) = false := by simpa using he
              have dm2 : (e2 != 0) = true := by simpa using he
              clear hq he
              have c3_2 : W2.cell? ⟨R, 3, none⟩ = some (.int .i64 e2) := HQ2.out.rq.cell 3
              have lR_2 : R < W2.heap.size := HQ2.out.rq.lt
              go_wp2
              go_ret
              exact ⟨0, ⟨rfl, by omega, by omega⟩, q, _, _, _, HPQ.out, HQ2.out, fun _ => HE2.out⟩
            · by_cases k4 : x1 ≤ 70
              · skip
                have a0 : x1 ≥ 48 := by omega
                have a1 : ¬ x1 ≥ 97 := by omega
                have a2 : x1 ≥ 65 := by omega
                obtain ⟨y0, hy0⟩ : ∃ y0, x1 - 65 = y0 := ⟨_, rfl⟩
                obtain ⟨y, hy⟩ : ∃ y, y0 + 10 = y := ⟨_, rfl⟩
                have y1 : 0 ≤ y := by omega
                have y2 : y ≤ 15 := by omega
                have y3 : ¬ y < 0 := by omega
                obtain ⟨mm, hmm⟩ : ∃ mm, m * 16 = mm := ⟨_, rfl⟩
                obtain ⟨m2, hm2b⟩ : ∃ m2, mm + y = m2 := ⟨_, rfl⟩
                have HM2 : Hid (0 ≤ m2 ∧ m2 + 1 ≤ hexB j) := by
                  have h1 := HB.out; have h2 := hexB_succ i; rw [HJ.out] at h2
                  refine hide ⟨?_, ?_⟩ <;> omega
                have m3 : mm ≤ 65520 := by omega
                have m4 : 0 ≤ mm := by omega
                obtain ⟨q2, hq2⟩ : ∃ qz, q + 1 = qz := ⟨_, rfl⟩
                have e1_2 : (q : Int) + 1 = (q2 : Int) := by omega
                have g2 : (q : Int) ≤ 1000000 := by have := HL.out; have := HQ1.out.le; omega
                have HP2 := hide hq2
                clear hq2
                have HQ2 := hide (HQ1.out.step (q := q2) (by have := HP2.out; omega) (by have := HP2.out; have := LT.out; omega))
                have HREL : Hid (∃ (i q : Nat) (m e' b' : Int), Value.int .i64 m2 = .int .i64 m ∧ Value.int .i64 (j : Int) = .int .i64 (i : Int) ∧ i ≤ 4 ∧ 0 ≤ m ∧ m + 1 ≤ hexB i ∧ p ≤ q ∧ (e ≠ 0 → e' ≠ 0) ∧ QS T w (W1.setCell ⟨R, 1, none⟩ (.int .i64 (q2 : Int))) R ao cap q d e' b') := ⟨j, q2, m2, 0, b1, rfl, rfl, by omega, HM2.out.1, HM2.out.2, by have := HPQ.out; have := HP2.out; omega, fun h => absurd E0.out h, HQ2.out⟩
                go_wp2
                go_roundw
                case rel => exact HREL.out
                case measure => simp only [RowKit.intOf]; omega
              · by_cases k5 : x1 < 97
                · skip
                  have a0 : x1 ≥ 48 := by omega
                  have a1 : ¬ x1 ≥ 97 := by omega
                  have a2 : x1 ≥ 65 := by omega
                  go_wp2_with fail
                  refine (fail_q w W1 R q d 0 b1 6 (q : Int) ao cap T HQ1.out (by omega)).mono ?_
                  rintro r W2 ⟨e2, b2, rfl, hq, he⟩
                  have HQ2 := hide hq
                  have HE2 := hide he
                  have dn2 : (e2 == 0) = false := by simpa using he
                  have dm2 : (e2 != 0) = true := by simpa using he
                  clear hq he
                  have c3_2 : W2.cell? ⟨R, 3, none⟩ = some (.int .i64 e2) := HQ2.out.rq.cell 3
                  have lR_2 : R < W2.heap.size := HQ2.out.rq.lt
                  go_wp2
                  go_ret
                  exact ⟨0, ⟨rfl, by omega, by omega⟩, q, _, _, _, HPQ.out, HQ2.out, fun _ => HE2.out⟩
                · by_cases k6 : x1 ≤ 102
                  · skip
                    have a0 : x1 ≥ 48 := by omega
                    have a1 : x1 ≥ 97 := by omega
                    have a2 : x1 ≥ 65 := by omega
                    obtain ⟨y0, hy0⟩ : ∃ y0, x1 - 97 = y0 := ⟨_, rfl⟩
                    obtain ⟨y, hy⟩ : ∃ y, y0 + 10 = y := ⟨_, rfl⟩
                    have y1 : 0 ≤ y := by omega
                    have y2 : y ≤ 15 := by omega
                    have y3 : ¬ y < 0 := by omega
                    obtain ⟨mm, hmm⟩ : ∃ mm, m * 16 = mm := ⟨_, rfl⟩
                    obtain ⟨m2, hm2b⟩ : ∃ m2, mm + y = m2 := ⟨_, rfl⟩
                    have HM2 : Hid (0 ≤ m2 ∧ m2 + 1 ≤ hexB j) := by
                      have h1 := HB.out; have h2 := hexB_succ i; rw [HJ.out] at h2
                      refine hide ⟨?_, ?_⟩ <;> omega
                    have m3 : mm ≤ 65520 := by omega
                    have m4 : 0 ≤ mm := by omega
                    obtain ⟨q2, hq2⟩ : ∃ qz, q + 1 = qz := ⟨_, rfl⟩
                    have e1_2 : (q : Int) + 1 = (q2 : Int) := by omega
                    have g2 : (q : Int) ≤ 1000000 := by have := HL.out; have := HQ1.out.le; omega
                    have HP2 := hide hq2
                    clear hq2
                    have HQ2 := hide (HQ1.out.step (q := q2) (by have := HP2.out; omega) (by have := HP2.out; have := LT.out; omega))
                    have HREL : Hid (∃ (i q : Nat) (m e' b' : Int), Value.int .i64 m2 = .int .i64 m ∧ Value.int .i64 (j : Int) = .int .i64 (i : Int) ∧ i ≤ 4 ∧ 0 ≤ m ∧ m + 1 ≤ hexB i ∧ p ≤ q ∧ (e ≠ 0 → e' ≠ 0) ∧ QS T w (W1.setCell ⟨R, 1, none⟩ (.int .i64 (q2 : Int))) R ao cap q d e' b') := ⟨j, q2, m2, 0, b1, rfl, rfl, by omega, HM2.out.1, HM2.out.2, by have := HPQ.out; have := HP2.out; omega, fun h => absurd E0.out h, HQ2.out⟩
                    go_wp2
                    go_roundw
                    case rel => exact HREL.out
                    case measure => simp only [RowKit.intOf]; omega
                  · skip
                    have a0 : x1 ≥ 48 := by omega
                    have a1 : x1 ≥ 97 := by omega
                    have a2 : x1 ≥ 65 := by omega
                    go_wp2_with fail
                    refine (fail_q w W1 R q d 0 b1 6 (q : Int) ao cap T HQ1.out (by omega)).mono ?_
                    rintro r W2 ⟨e2, b2, rfl, hq, he⟩
                    have HQ2 := hide hq
                    have HE2 := hide he
                    have dn2 : (e2 == 0) = false := by simpa using he
                    have dm2 : (e2 != 0) = true := by simpa using he
                    clear hq he
                    have c3_2 : W2.cell? ⟨R, 3, none⟩ = some (.int .i64 e2) := HQ2.out.rq.cell 3
                    have lR_2 : R < W2.heap.size := HQ2.out.rq.lt
                    go_wp2
                    go_ret
                    exact ⟨0, ⟨rfl, by omega, by omega⟩, q, _, _, _, HPQ.out, HQ2.out, fun _ => HE2.out⟩
      · have d1 : (e1 == 0) = false := by simpa using he
        have d2 : (e1 != 0) = true := by simpa using he
        obtain rfl : x1 = -1 := by
          rcases HX1.out with h | h
          · exact h.1
          · exact absurd h.1 he
        have HE := hide he
        clear he HX1
        go_wp2
        go_ret
        exact ⟨0, ⟨rfl, by omega, by omega⟩, q, _, _, _, HPQ.out, HQ1.out, fun _ => HE.out⟩

end Go.Proofs.YtbdpmpepmjpadaaGreatDoor

namespace Go.Proofs.YtbdpmpepmjpadaaGreatDoor
set_option linter.unusedVariables false
set_option linter.unusedSimpArgs false
set_option maxRecDepth 100000
open Go Go.RowKit Go.Shelf Go.Lib

set_option maxHeartbeats 16000000 in
theorem second_any (w W : World) (R p : Nat) (d e b : Int) (from_ n : Int) (hn : 55296 ≤ n ∧ n ≤ 56319) (ao : Option Addr) (cap : Nat) (T : List Nat) (h : QS T w W R ao cap p d e b) :
    Calls Tryz.prog 102 #[.pointer (some ⟨R, 0, none⟩), .int .i64 from_, .int .i64 n] W fun r w' => ∃ (m : Int) (q : Nat) (d' e' b' : Int), r = .returned (.int .i64 m) ∧ p ≤ q ∧ QS T w w' R ao cap q d' e' b' ∧ (e ≠ 0 → e' ≠ 0) ∧ (e' = 0 → 65536 ≤ m ∧ m ≤ 1114111) := by
  have HL := hide h.tx.len
  have HQ0 := hide h
  obtain ⟨n0, n1⟩ := hn
  obtain ⟨n2, hn2⟩ : ∃ n2, n - 55296 = n2 := ⟨_, rfl⟩
  have n3 : 0 ≤ n2 := by omega
  have n4 : n2 ≤ 1023 := by omega
  obtain ⟨n5, hn5⟩ : ∃ n5, n2 * 1024 = n5 := ⟨_, rfl⟩
  have n6 : 0 ≤ n5 := by omega
  have n7 : n5 ≤ 1047552 := by omega
  obtain ⟨n8, hn8⟩ : ∃ n8, 65536 + n5 = n8 := ⟨_, rfl⟩
  have n9 : 65536 ≤ n8 := by omega
  have n10 : n8 ≤ 1113088 := by omega
  clear h
  go_enter Tryz.func102, Tryz.ntmps102
  go_wp2_with fail
  refine (see_q w W R p d e b ao cap T HQ0.out).mono ?_
  rintro r W1 ⟨x1, rfl, hq, hx, h1_1, h2_1⟩
  have HQ1 := hide hq
  have HX1 := hide hx
  clear hq hx
  by_cases k1 : x1 = 92
  · subst k1
    have SX1 : Hid (e = (0 : Int) ∧ p < T.length) := by
      rcases HX1.out with h | h
      · have := h.1; omega
      · exact hide ⟨h.1, h.2.1⟩
    clear HX1
    have c1_1 : W1.cell? ⟨R, 1, none⟩ = some (.int .i64 (p : Int)) := HQ1.out.rq.cell 1
    have f1_1 : W1.frozen? ⟨R, 1, none⟩ = false := HQ1.out.rq.frozen 1
    have lR_1 : R < W1.heap.size := HQ1.out.rq.lt
    obtain ⟨q2, hq2⟩ : ∃ qz, p + 1 = qz := ⟨_, rfl⟩
    have e1_2 : (p : Int) + 1 = (q2 : Int) := by omega
    have g2 : (p : Int) ≤ 1000000 := by have := HL.out; have := HQ1.out.le; omega
    have HP2 := hide hq2
    clear hq2
    have HQ2 := hide (HQ1.out.step (q := q2) (by have := HP2.out; omega) (by have := HP2.out; have := SX1.out.2; omega))
    go_wp2_with fail
    refine (peek_q w (W1.setCell ⟨R, 1, none⟩ (.int .i64 (q2 : Int))) R q2 d e b ao cap T HQ2.out).mono ?_
    rintro r W3 ⟨x3, e3, b3, rfl, hq, h1_3, h2_3, hx⟩
    have HQ3 := hide hq
    have HX3 := hide hx
    clear hq hx
    have c3_3 : W3.cell? ⟨R, 3, none⟩ = some (.int .i64 e3) := HQ3.out.rq.cell 3
    have lR_3 : R < W3.heap.size := HQ3.out.rq.lt
    by_cases he : e3 = 0
    · subst he
      have LT3 : Hid (q2 < T.length) := by
        rcases HX3.out with h | h
        · exact absurd rfl h.2
        · exact hide h.2.2.1
      by_cases k2 : x3 = 117
      · subst k2
        clear HX3
        have c1_3 : W3.cell? ⟨R, 1, none⟩ = some (.int .i64 (q2 : Int)) := HQ3.out.rq.cell 1
        have f1_3 : W3.frozen? ⟨R, 1, none⟩ = false := HQ3.out.rq.frozen 1
        obtain ⟨q4, hq4⟩ : ∃ qz, q2 + 1 = qz := ⟨_, rfl⟩
        have e1_4 : (q2 : Int) + 1 = (q4 : Int) := by omega
        have g4 : (q2 : Int) ≤ 1000000 := by have := HL.out; have := HQ3.out.le; omega
        have HP4 := hide hq4
        clear hq4
        have HQ4 := hide (HQ3.out.step (q := q4) (by have := HP4.out; omega) (by have := HP4.out; have := LT3.out; omega))
        go_wp2_with fail
        refine (hex_any w (W3.setCell ⟨R, 1, none⟩ (.int .i64 (q4 : Int))) R q4 d 0 b3 ao cap T HQ4.out).mono ?_
        rintro r W5 ⟨low, ⟨rfl, l1, l2⟩, q5, d5, e5, b5, hpq, hq, hee⟩
        have HQ5 := hide hq
        have HP5 := hide hpq
        have HE5 := hide hee
        clear hq hpq hee
        have c3_5 : W5.cell? ⟨R, 3, none⟩ = some (.int .i64 e5) := HQ5.out.rq.cell 3
        have lR_5 : R < W5.heap.size := HQ5.out.rq.lt
        obtain ⟨m0, hm0⟩ : ∃ m0, n8 + low = m0 := ⟨_, rfl⟩
        obtain ⟨m1, hm1⟩ : ∃ m1, m0 - 56320 = m1 := ⟨_, rfl⟩
        have m2 : 0 ≤ m0 := by omega
        have m3 : m0 ≤ 1200000 := by omega
        have LOW : Hid (n8 + low - 56320 = m1) := by
          refine hide ?_
          omega
        have N8 : Hid (65536 ≤ n8 ∧ n8 ≤ 1113088) := hide ⟨n9, n10⟩
        by_cases hz : e5 = 0
        · subst hz
          by_cases k3 : low < 56320
          · skip
            go_wp2_with fail
            refine (fail_q w W5 R q5 d5 0 b5 6 from_ ao cap T HQ5.out (by omega)).mono ?_
            rintro r W6 ⟨e6, b6, rfl, hq, he⟩
            have HQ6 := hide hq
            have HE6 := hide he
            have dn6 : (e6 == 0) = false := by simpa using he
            have dm6 : (e6 != 0) = true := by simpa using he
            clear hq he
            go_wp2
            go_ret
            exact ⟨_, q5, _, _, _, rfl, by have := HP5.out; have := HP4.out; have := HP2.out; omega, HQ6.out, fun _ => HE6.out, fun h => absurd h HE6.out⟩
          · by_cases k4 : low > 57343
            · skip
              go_wp2_with fail
              refine (fail_q w W5 R q5 d5 0 b5 6 from_ ao cap T HQ5.out (by omega)).mono ?_
              rintro r W6 ⟨e6, b6, rfl, hq, he⟩
              have HQ6 := hide hq
              have HE6 := hide he
              have dn6 : (e6 == 0) = false := by simpa using he
              have dm6 : (e6 != 0) = true := by simpa using he
              clear hq he
              go_wp2
              go_ret
              exact ⟨_, q5, _, _, _, rfl, by have := HP5.out; have := HP4.out; have := HP2.out; omega, HQ6.out, fun _ => HE6.out, fun h => absurd h HE6.out⟩
            · have LW : Hid (56320 ≤ low ∧ low ≤ 57343) := by
                refine hide ⟨?_, ?_⟩ <;> omega
              go_wp2
              go_ret
              exact ⟨_, q5, _, _, _, rfl, by have := HP5.out; have := HP4.out; have := HP2.out; omega, HQ5.out, fun h => absurd SX1.out.1 h, fun _ => by have h1 := LW.out; have h2 := LOW.out; have h3 := N8.out; refine ⟨?_, ?_⟩ <;> omega⟩
        · have d1 : (e5 == 0) = false := by simpa using hz
          have HZ := hide hz
          clear hz
          go_wp2
          go_ret
          exact ⟨_, q5, _, _, _, rfl, by have := HP5.out; have := HP4.out; have := HP2.out; omega, HQ5.out, fun _ => HZ.out, fun h => absurd h HZ.out⟩
      · have d1 : (x3 != 117) = true := by simpa using k2
        clear HX3
        go_wp2_with fail
        refine (fail_q w W3 R q2 d 0 b3 6 from_ ao cap T HQ3.out (by omega)).mono ?_
        rintro r W4 ⟨e4, b4, rfl, hq, he⟩
        have HQ4 := hide hq
        have HE4 := hide he
        have dn4 : (e4 == 0) = false := by simpa using he
        have dm4 : (e4 != 0) = true := by simpa using he
        clear hq he
        have c3_4 : W4.cell? ⟨R, 3, none⟩ = some (.int .i64 e4) := HQ4.out.rq.cell 3
        have lR_4 : R < W4.heap.size := HQ4.out.rq.lt
        go_wp2
        go_ret
        exact ⟨0, q2, _, _, _, rfl, by have := HP2.out; omega, HQ4.out, fun _ => HE4.out, fun h => absurd h HE4.out⟩
    · have d1 : (e3 == 0) = false := by simpa using he
      have d2 : (e3 != 0) = true := by simpa using he
      have HZ := hide he
      clear he HX3
      go_wp2
      go_ret
      exact ⟨0, q2, _, _, _, rfl, by have := HP2.out; omega, HQ3.out, fun _ => HZ.out, fun h => absurd h HZ.out⟩
  · have d1 : (x1 != 92) = true := by simpa using k1
    clear HX1
    go_wp2_with fail
    refine (fail_q w W1 R p d e b 6 from_ ao cap T HQ1.out (by omega)).mono ?_
    rintro r W2 ⟨e2, b2, rfl, hq, he⟩
    have HQ2 := hide hq
    have HE2 := hide he
    have dn2 : (e2 == 0) = false := by simpa using he
    have dm2 : (e2 != 0) = true := by simpa using he
    clear hq he
    go_wp2
    go_ret
    exact ⟨0, p, _, _, _, rfl, Nat.le_refl _, HQ2.out, fun _ => HE2.out, fun h => absurd h HE2.out⟩

theorem QS.down {T : List Nat} {w W : World} {R : Nat} {ao : Option Addr} {cap p : Nat} {d d' e b : Int} (h : QS T w W R ao cap p d e b) (hd : DB d' e p) : QS T w (W.setCell ⟨R, 2, none⟩ (.int .i64 d')) R ao cap p d' e b :=
  h.go (BoxC.set h.rq 2 _) ((Fr.refl R none W).set 2 _) h.le hd
set_option maxHeartbeats 16000000 in
theorem more_any (w W : World) (R p : Nat) (d e b : Int) (c : Int) (hc : 0 ≤ c) (ao : Option Addr) (cap : Nat) (T : List Nat) (h : QS T w W R ao cap p d e b) :
    Calls Tryz.prog 83 #[.pointer (some ⟨R, 0, none⟩), .int .i64 c] W fun r w' => ∃ (m : Bool) (q : Nat) (d' e' b' : Int), r = .returned (.bool m) ∧ p ≤ q ∧ QS T w w' R ao cap q d' e' b' ∧ (e ≠ 0 → e' ≠ 0) ∧ (m = true → p < q) := by
  have HL := hide h.tx.len
  have HQ0 := hide h
  clear h
  go_enter Tryz.func83, Tryz.ntmps83
  go_wp2_with fail
  refine (blank_q w W R p d e b ao cap T HQ0.out).mono ?_
  rintro r W1 ⟨rfl, q1, hpq, hq⟩
  have HQ1 := hide hq
  have HP1 := hide hpq
  clear hq hpq
  go_wp2_with fail
  refine (peek_q w W1 R q1 d e b ao cap T HQ1.out).mono ?_
  rintro r W2 ⟨x2, e2, b2, rfl, hq, h1_2, h2_2, hx⟩
  have HQ2 := hide hq
  have HX2 := hide hx
  clear hq hx
  have c1_2 : W2.cell? ⟨R, 1, none⟩ = some (.int .i64 (q1 : Int)) := HQ2.out.rq.cell 1
  have c2_2 : W2.cell? ⟨R, 2, none⟩ = some (.int .i64 d) := HQ2.out.rq.cell 2
  have c3_2 : W2.cell? ⟨R, 3, none⟩ = some (.int .i64 e2) := HQ2.out.rq.cell 3
  have f1_2 : W2.frozen? ⟨R, 1, none⟩ = false := HQ2.out.rq.frozen 1
  have f2_2 : W2.frozen? ⟨R, 2, none⟩ = false := HQ2.out.rq.frozen 2
  have lR_2 : R < W2.heap.size := HQ2.out.rq.lt
  by_cases he : e2 = 0
  · subst he
    have LT : Hid (q1 < T.length) := by
      rcases HX2.out with h | h
      · exact absurd rfl h.2
      · exact hide h.2.2.1
    have E0 : Hid (e = 0) := by
      rcases HX2.out with h | h
      · exact absurd rfl h.2
      · exact hide h.2.1
    clear HX2
    by_cases k1 : x2 = c
    · subst k1
      have DBD : Hid (-(q1 : Int) ≤ d ∧ d ≤ (q1 : Int)) := hide (HQ2.out.db.2.2 rfl)
      obtain ⟨q3, hq3⟩ : ∃ qz, q1 + 1 = qz := ⟨_, rfl⟩
      have e1_3 : (q1 : Int) + 1 = (q3 : Int) := by omega
      have g3 : (q1 : Int) ≤ 1000000 := by have := HL.out; have := HQ2.out.le; omega
      have HP3 := hide hq3
      clear hq3
      have HQ3 := hide (HQ2.out.step (q := q3) (by have := HP3.out; omega) (by have := HP3.out; have := LT.out; omega))
      have hD := DBD.out
      have hT := HQ3.out.le
      have hTL := HL.out
      obtain ⟨dd, hdd⟩ : ∃ dd, d - 1 = dd := ⟨_, rfl⟩
      have g5 : -1000001 ≤ d := by omega
      have g6 : d ≤ 1000001 := by omega
      have HQD := hide (HQ3.out.down (d' := dd) (by have := HP3.out; refine ⟨?_, ?_, fun _ => ⟨?_, ?_⟩⟩ <;> omega))
      clear hD hT hTL
      go_wp2
      go_ret
      exact ⟨false, q3, _, _, _, rfl, by have := HP1.out; have := HP3.out; omega, HQD.out, fun h => absurd E0.out h, fun h => by cases h⟩
    · have d1 : (x2 == c) = false := by simpa using k1
      by_cases k2 : x2 = 44
      · subst k2
        obtain ⟨q3, hq3⟩ : ∃ qz, q1 + 1 = qz := ⟨_, rfl⟩
        have e1_3 : (q1 : Int) + 1 = (q3 : Int) := by omega
        have g3 : (q1 : Int) ≤ 1000000 := by have := HL.out; have := HQ2.out.le; omega
        have HP3 := hide hq3
        clear hq3
        have HQ3 := hide (HQ2.out.step (q := q3) (by have := HP3.out; omega) (by have := HP3.out; have := LT.out; omega))
        go_wp2_with fail
        refine (blank_q w (W2.setCell ⟨R, 1, none⟩ (.int .i64 (q3 : Int))) R q3 d 0 b2 ao cap T HQ3.out).mono ?_
        rintro r W4 ⟨rfl, q4, hpq, hq⟩
        have HQ4 := hide hq
        have HP4 := hide hpq
        clear hq hpq
        go_wp2
        go_ret
        exact ⟨true, q4, _, _, _, rfl, by have := HP1.out; have := HP3.out; have := HP4.out; omega, HQ4.out, fun h => absurd E0.out h, fun _ => by have := HP1.out; have := HP3.out; have := HP4.out; omega⟩
      · have d2 : (x2 != 44) = true := by simpa using k2
        go_wp2_with fail
        refine (fail_q w W2 R q1 d 0 b2 6 (q1 : Int) ao cap T HQ2.out (by omega)).mono ?_
        rintro r W3 ⟨e3, b3, rfl, hq, he⟩
        have HQ3 := hide hq
        have HE3 := hide he
        have dn3 : (e3 == 0) = false := by simpa using he
        have dm3 : (e3 != 0) = true := by simpa using he
        clear hq he
        go_wp2
        go_ret
        exact ⟨false, q1, _, _, _, rfl, HP1.out, HQ3.out, fun _ => HE3.out, fun h => by cases h⟩
  · have d1 : (e2 != 0) = true := by simpa using he
    have HZ := hide he
    clear he HX2
    go_wp2
    go_ret
    exact ⟨false, q1, _, _, _, rfl, HP1.out, HQ2.out, fun _ => HZ.out, fun h => by cases h⟩

set_option maxHeartbeats 16000000 in
theorem enter_any (w W : World) (R p : Nat) (d b : Int) (c : Int) (hc : 0 ≤ c) (ao : Option Addr) (cap : Nat) (T : List Nat) (h : QS T w W R ao cap p d 0 b) (hlt : p < T.length) :
    Calls Tryz.prog 81 #[.pointer (some ⟨R, 0, none⟩), .int .i64 c] W fun r w' => ∃ (m : Bool) (q : Nat) (d' e' b' : Int), r = .returned (.bool m) ∧ p ≤ q ∧ QS T w w' R ao cap q d' e' b' ∧ (m = false → p < q) := by
  have HL := hide h.tx.len
  have HQ0 := hide h
  have LT := hide hlt
  have DBD : Hid (-(p : Int) ≤ d ∧ d ≤ (p : Int)) := hide (h.db.2.2 rfl)
  have hP := h.le
  have hT := HL.out
  have hD := DBD.out
  obtain ⟨d1, hd1⟩ : ∃ d1, d + 1 = d1 := ⟨_, rfl⟩
  have HD1 := hide hd1
  have g5 : -1000001 ≤ d := by omega
  have g6 : d ≤ 1000001 := by omega
  have g7 : -1000001 ≤ d1 := by omega
  have g8 : d1 ≤ 1000002 := by omega
  clear h hlt hP hT hD
  have c1_0 : W.cell? ⟨R, 1, none⟩ = some (.int .i64 (p : Int)) := HQ0.out.rq.cell 1
  have c2_0 : W.cell? ⟨R, 2, none⟩ = some (.int .i64 d) := HQ0.out.rq.cell 2
  have f1_0 : W.frozen? ⟨R, 1, none⟩ = false := HQ0.out.rq.frozen 1
  have f2_0 : W.frozen? ⟨R, 2, none⟩ = false := HQ0.out.rq.frozen 2
  have lR_0 : R < W.heap.size := HQ0.out.rq.lt
  go_enter Tryz.func81, Tryz.ntmps81
  by_cases k0 : d1 > 64
  · skip
    have RQ1 : Hid (RQ (W.setCell ⟨R, 2, none⟩ (.int .i64 d1)) R (.slice ao T.length cap) p d1 0 b) := hide (BoxC.set HQ0.out.rq 2 _)
    go_wp2_with fail
    refine (fail_yes (W.setCell ⟨R, 2, none⟩ (.int .i64 d1)) R p _ d1 b 13 (p : Int) RQ1.out).mono ?_
    rintro r W1 ⟨rfl, hr, hf⟩
    have HZ := hide (HQ0.out.go hr (((Fr.refl R none W).set 2 _).trans hf (.inl rfl)) HQ0.out.le (by have := DBD.out; have := HD1.out; refine ⟨?_, ?_, fun h => by omega⟩ <;> omega))
    clear hr hf
    go_wp2
    go_ret
    exact ⟨true, p, _, _, _, rfl, Nat.le_refl _, HZ.out, fun h => by cases h⟩
  · have RQ1 : Hid (RQ (W.setCell ⟨R, 2, none⟩ (.int .i64 d1)) R (.slice ao T.length cap) p d1 0 b) := hide (BoxC.set HQ0.out.rq 2 _)
    obtain ⟨q1, hq1⟩ : ∃ qz, p + 1 = qz := ⟨_, rfl⟩
    have e1_1 : (p : Int) + 1 = (q1 : Int) := by omega
    have g1 : (p : Int) ≤ 1000000 := by have := HL.out; have := HQ0.out.le; omega
    have HP1 := hide hq1
    clear hq1
    have HQ1 : Hid (QS T w ((W.setCell ⟨R, 2, none⟩ (.int .i64 d1)).setCell ⟨R, 1, none⟩ (.int .i64 (q1 : Int))) R ao cap q1 d1 0 b) := hide (HQ0.out.go RQ1.out.sets (((Fr.refl R none W).set 2 _).set 1 _) (by have := HP1.out; have := LT.out; omega) (by have := DBD.out; have := HD1.out; have := HP1.out; refine ⟨?_, ?_, fun _ => ⟨?_, ?_⟩⟩ <;> omega))
    go_wp2_with fail
    refine (blank_q w ((W.setCell ⟨R, 2, none⟩ (.int .i64 d1)).setCell ⟨R, 1, none⟩ (.int .i64 (q1 : Int))) R q1 d1 0 b ao cap T HQ1.out).mono ?_
    rintro r W2 ⟨rfl, q2, hpq, hq⟩
    have HQ2 := hide hq
    have HP2 := hide hpq
    clear hq hpq
    go_wp2_with fail
    refine (peek_q w W2 R q2 d1 0 b ao cap T HQ2.out).mono ?_
    rintro r W3 ⟨x3, e3, b3, rfl, hq, h1_3, h2_3, hx⟩
    have HQ3 := hide hq
    have HX3 := hide hx
    clear hq hx
    have c1_3 : W3.cell? ⟨R, 1, none⟩ = some (.int .i64 (q2 : Int)) := HQ3.out.rq.cell 1
    have c2_3 : W3.cell? ⟨R, 2, none⟩ = some (.int .i64 d1) := HQ3.out.rq.cell 2
    have c3_3 : W3.cell? ⟨R, 3, none⟩ = some (.int .i64 e3) := HQ3.out.rq.cell 3
    have f1_3 : W3.frozen? ⟨R, 1, none⟩ = false := HQ3.out.rq.frozen 1
    have f2_3 : W3.frozen? ⟨R, 2, none⟩ = false := HQ3.out.rq.frozen 2
    have lR_3 : R < W3.heap.size := HQ3.out.rq.lt
    by_cases he : e3 = 0
    · subst he
      have LT2 : Hid (q2 < T.length) := by
        rcases HX3.out with h | h
        · exact absurd rfl h.2
        · exact hide h.2.2.1
      clear HX3
      by_cases k1 : x3 = c
      · subst k1
        have DB2 : Hid (-(q2 : Int) ≤ d1 ∧ d1 ≤ (q2 : Int)) := hide (HQ3.out.db.2.2 rfl)
        obtain ⟨q4, hq4⟩ : ∃ qz, q2 + 1 = qz := ⟨_, rfl⟩
        have e1_4 : (q2 : Int) + 1 = (q4 : Int) := by omega
        have g4 : (q2 : Int) ≤ 1000000 := by have := HL.out; have := HQ3.out.le; omega
        have HP4 := hide hq4
        clear hq4
        have HQ4 := hide (HQ3.out.step (q := q4) (by have := HP4.out; omega) (by have := HP4.out; have := LT2.out; omega))
        obtain ⟨dd, hdd⟩ : ∃ dd, d1 - 1 = dd := ⟨_, rfl⟩
        have HQD := hide (HQ4.out.down (d' := dd) (by have := DB2.out; have := HP4.out; refine ⟨?_, ?_, fun _ => ⟨?_, ?_⟩⟩ <;> omega))
        go_wp2
        go_ret
        exact ⟨true, q4, _, _, _, rfl, by have := HP2.out; have := HP1.out; have := HP4.out; omega, HQD.out, fun h => by cases h⟩
      · have d1 : (x3 == c) = false := by simpa using k1
        go_wp2
        go_ret
        exact ⟨false, q2, _, _, _, rfl, by have := HP2.out; have := HP1.out; omega, HQ3.out, fun _ => by have := HP2.out; have := HP1.out; omega⟩
    · have dz : (e3 != 0) = true := by simpa using he
      have HZ := hide he
      clear he HX3
      go_wp2
      go_ret
      exact ⟨true, q2, _, _, _, rfl, by have := HP2.out; have := HP1.out; omega, HQ3.out, fun h => by cases h⟩

end Go.Proofs.YtbdpmpepmjpadaaGreatDoor

namespace Go.Proofs.YtbdpmpepmjpadaaGreatDoor
set_option linter.unusedVariables false
set_option linter.unusedSimpArgs false
set_option maxRecDepth 100000
open Go Go.RowKit Go.Shelf Go.Lib

/-- Trees whose rows and texts are no longer than a text that is read. -/
inductive SzT (N : Nat) : JT → Prop where
  | mk (k : Int) (s : ByteArray) (K : List ByteArray) (L : List JT) (hK : K.length ≤ N) (hL : L.length ≤ N) (hs : s.size ≤ 4 * N) (ht : ∀ i (h : i < L.length), SzT N L[i]) : SzT N (.mk k s K L)
/-- A value is read: some tree, in memory of its own. -/
def QV (T : List Nat) (w : World) (R : Nat) (ao : Option Addr) (cap p : Nat) (e : Int) (n : Nat) (r : Ending) (w' : World) : Prop :=
  ∃ (x : JC) (Tr : JT), r = .returned (vagg x) ∧ TIn w' (fun b => n ≤ b) x Tr ∧ SzT T.length Tr ∧ QM T w R ao cap p e w'
theorem wrap64_at {n : Int} (h : 0 ≤ n ∧ n ≤ 255) : wrap64 n = n := by unfold wrap64; omega
theorem tin_leaf (W : World) (S : Nat → Prop) (k : Int) (s : ByteArray) : TIn W S (k, s, .slice none 0 0, .slice none 0 0) (.mk k s [] []) :=
  .mk k s (.slice none 0 0) none 0 [] [] (fun _ => (0, ⟨#[]⟩, .slice none 0 0, .slice none 0 0)) ⟨none, 0, rfl, fun j h => by simp at h⟩ (fun i h => by simp at h) (fun i h => by simp at h) (fun i h => by simp at h)
theorem sz_leaf (N : Nat) (k : Int) (s : ByteArray) (hs : s.size ≤ 4 * N) : SzT N (.mk k s [] []) :=
  .mk k s [] [] (by simp) (by simp) hs (fun i h => by simp at h)
theorem QS.self {T : List Nat} {w W W' : World} {R : Nat} {ao : Option Addr} {cap p : Nat} {d e b : Int} (h : QS T w W R ao cap p d e b) (hb : Below W.heap.size W W') : QS T W' W' R ao cap p d e b :=
  ⟨h.rq.below hb, h.tx.fr (Fr.of hb), Fr.refl _ _ _, h.le, h.db⟩
theorem QS.fin {T : List Nat} {w W W1 W' : World} {R : Nat} {ao : Option Addr} {cap p q : Nat} {d d' e e' b b' : Int} (h : QS T w W R ao cap p d e b) (hb : Below W.heap.size W W1) (hs : QS T W1 W' R ao cap q d' e' b') (a0 a1 a2 a3 : Value) :
    QS T w ((((W'.setCell ⟨W.heap.size, 0, none⟩ a0).setCell ⟨W.heap.size, 1, none⟩ a1).setCell ⟨W.heap.size, 2, none⟩ a2).setCell ⟨W.heap.size, 3, none⟩ a3) R ao cap q d' e' b' := by
  have hne : R ≠ W.heap.size := by have := h.rq.lt; omega
  have hn := Nat.le_refl W.heap.size
  exact h.go (BoxC.other (BoxC.other (BoxC.other (BoxC.other hs.rq hne 0 _) hne 1 _) hne 2 _) hne 3 _) ((((((Fr.of hb).trans hs.fr (.inl rfl)).setNew hn 0 _).setNew hn 1 _).setNew hn 2 _).setNew hn 3 _) hs.le hs.db

set_option maxHeartbeats 16000000 in
theorem word_true (w W : World) (R p : Nat) (d e b : Int) (ao : Option Addr) (cap : Nat) (T : List Nat) (h : QS T w W R ao cap p d e b) :
    Calls Tryz.prog 60 #[.pointer (some ⟨R, 0, none⟩), .string ⟨#[116, 114, 117, 101]⟩, .int .i64 2] W (QV T w R ao cap p e W.heap.size) := by
  have hb0 := bel W (.cells #[.int .i64 0, .string ⟨#[]⟩, .slice none 0 0, .slice none 0 0] 36)
  have hx0 := BoxC.new W 36 #[.int .i64 0, .string ⟨#[]⟩, .slice none 0 0, .slice none 0 0]
  have HSZ : Hid ((W.alloc (.cells #[.int .i64 0, .string ⟨#[]⟩, .slice none 0 0, .slice none 0 0] 36)).heap.size = W.heap.size + 1) := World.size_alloc _ _
  have HRW := hide h.rq.lt
  have HQE := hide h
  generalize hw0 : W.alloc (.cells #[.int .i64 0, .string ⟨#[]⟩, .slice none 0 0, .slice none 0 0] 36) = w0 at *
  have HW0 := hide hw0
  have HB := hide hb0
  have HX0 := hide hx0
  have HQ0 := hide (h.self hb0)
  clear h hw0 hb0 hx0
  have HI : Hid (∃ (i : Int) (q : Nat) (d' e' b' : Int), Value.int .i64 0 = .int .i64 i ∧ 0 ≤ i ∧ i ≤ 4 ∧ p ≤ q ∧ (e ≠ 0 → e' ≠ 0) ∧ QS T w0 w0 R ao cap q d' e' b') := ⟨0, p, d, e, b, rfl, by omega, by omega, Nat.le_refl _, fun h => h, HQ0.out⟩
  clear HQ0
  go_enter Tryz.func60, Tryz.ntmps60
  go_upto_region 1 with fail
  show Code.wp _ _ _ _ (W.alloc (.cells #[.int .i64 0, .string ⟨#[]⟩, .slice none 0 0, .slice none 0 0] 36))
  rw [HW0.out]
  clear HW0
  go_wp2
  go_loopw [7] (fun iv wr => ∃ (i : Int) (q : Nat) (d' e' b' : Int), iv = .int .i64 i ∧ 0 ≤ i ∧ i ≤ 4 ∧ p ≤ q ∧ (e ≠ 0 → e' ≠ 0) ∧ QS T w0 wr R ao cap q d' e' b') (fun iv _ => 4 - (RowKit.intOf iv).toNat)
  case atStart => exact HI.out
  case round =>
    obtain ⟨i, q, d0, e0, b0, rfl, hi0, hi1, hpq, hee, hs⟩ := hrel
    have HS := hide hs
    have HPQ := hide hpq
    have HEE := hide hee
    clear HI hs hpq hee
    obtain rfl | rfl | rfl | rfl | rfl : i = 0 ∨ i = 1 ∨ i = 2 ∨ i = 3 ∨ i = 4 := by omega
    · have q0 : ∀ h, wrap64 (((({ data := #[116, 114, 117, 101] } : ByteArray)[0]'h).toNat : Nat) : Int) = 116 := by intro h; exact wrap64_at (n := 116) (by omega)
      go_wp2_with fail
      rw [q0]
      clear q0
      refine (must_any w0 wr R q d0 e0 b0 116 ao cap T HS.out).mono ?_
      rintro r W1 ⟨rfl, q1, d1, e1, b1, hpq, hq, hee⟩
      have HREL : Hid (∃ (i : Int) (q : Nat) (d' e' b' : Int), Value.int .i64 1 = .int .i64 i ∧ 0 ≤ i ∧ i ≤ 4 ∧ p ≤ q ∧ (e ≠ 0 → e' ≠ 0) ∧ QS T w0 W1 R ao cap q d' e' b') := ⟨1, q1, d1, e1, b1, rfl, by omega, by omega, by have := HPQ.out; omega, fun h => hee (HEE.out h), hq⟩
      clear hpq hq hee
      go_wp2
      go_roundw
      case rel => exact HREL.out
      case measure => simp [RowKit.intOf]
    · have q0 : ∀ h, wrap64 (((({ data := #[116, 114, 117, 101] } : ByteArray)[1]'h).toNat : Nat) : Int) = 114 := by intro h; exact wrap64_at (n := 114) (by omega)
      go_wp2_with fail
      rw [q0]
      clear q0
      refine (must_any w0 wr R q d0 e0 b0 114 ao cap T HS.out).mono ?_
      rintro r W1 ⟨rfl, q1, d1, e1, b1, hpq, hq, hee⟩
      have HREL : Hid (∃ (i : Int) (q : Nat) (d' e' b' : Int), Value.int .i64 2 = .int .i64 i ∧ 0 ≤ i ∧ i ≤ 4 ∧ p ≤ q ∧ (e ≠ 0 → e' ≠ 0) ∧ QS T w0 W1 R ao cap q d' e' b') := ⟨2, q1, d1, e1, b1, rfl, by omega, by omega, by have := HPQ.out; omega, fun h => hee (HEE.out h), hq⟩
      clear hpq hq hee
      go_wp2
      go_roundw
      case rel => exact HREL.out
      case measure => simp [RowKit.intOf]
    · have q0 : ∀ h, wrap64 (((({ data := #[116, 114, 117, 101] } : ByteArray)[2]'h).toNat : Nat) : Int) = 117 := by intro h; exact wrap64_at (n := 117) (by omega)
      go_wp2_with fail
      rw [q0]
      clear q0
      refine (must_any w0 wr R q d0 e0 b0 117 ao cap T HS.out).mono ?_
      rintro r W1 ⟨rfl, q1, d1, e1, b1, hpq, hq, hee⟩
      have HREL : Hid (∃ (i : Int) (q : Nat) (d' e' b' : Int), Value.int .i64 3 = .int .i64 i ∧ 0 ≤ i ∧ i ≤ 4 ∧ p ≤ q ∧ (e ≠ 0 → e' ≠ 0) ∧ QS T w0 W1 R ao cap q d' e' b') := ⟨3, q1, d1, e1, b1, rfl, by omega, by omega, by have := HPQ.out; omega, fun h => hee (HEE.out h), hq⟩
      clear hpq hq hee
      go_wp2
      go_roundw
      case rel => exact HREL.out
      case measure => simp [RowKit.intOf]
    · have q0 : ∀ h, wrap64 (((({ data := #[116, 114, 117, 101] } : ByteArray)[3]'h).toNat : Nat) : Int) = 101 := by intro h; exact wrap64_at (n := 101) (by omega)
      go_wp2_with fail
      rw [q0]
      clear q0
      refine (must_any w0 wr R q d0 e0 b0 101 ao cap T HS.out).mono ?_
      rintro r W1 ⟨rfl, q1, d1, e1, b1, hpq, hq, hee⟩
      have HREL : Hid (∃ (i : Int) (q : Nat) (d' e' b' : Int), Value.int .i64 4 = .int .i64 i ∧ 0 ≤ i ∧ i ≤ 4 ∧ p ≤ q ∧ (e ≠ 0 → e' ≠ 0) ∧ QS T w0 W1 R ao cap q d' e' b') := ⟨4, q1, d1, e1, b1, rfl, by omega, by omega, by have := HPQ.out; omega, fun h => hee (HEE.out h), hq⟩
      clear hpq hq hee
      go_wp2
      go_roundw
      case rel => exact HREL.out
      case measure => simp [RowKit.intOf]
    · have HX := hide (show BoxC wr W.heap.size 36 #[.int .i64 0, .string ⟨#[]⟩, .slice none 0 0, .slice none 0 0] from (HS.out.fr.block (k := W.heap.size) (by have := HSZ.out; omega) (by have := HRW.out; omega) (by simp)).trans HX0.out)
      have x0 := HX.out.cell 0
      have x1 := HX.out.cell 1
      have x2 := HX.out.cell 2
      have x3 := HX.out.cell 3
      have y0 := HX.out.frozen 0
      have y1 := HX.out.frozen 1
      have y2 := HX.out.frozen 2
      have y3 := HX.out.frozen 3
      have lX := HX.out.lt
      go_wp2
      have z := (((HX.out.set 0 (.int .i64 2)).set 1 (.string ⟨#[]⟩)).set 2 (.slice none 0 0)).set 3 (.slice none 0 0)
      refine bodyPost_ret (results_rv rfl rfl z) rfl ?_
      refine ⟨(2, ⟨#[]⟩, .slice none 0 0, .slice none 0 0), _, rfl, tin_leaf _ _ _ _, sz_leaf _ _ _ (Nat.zero_le _), q, d0, e0, b0, HPQ.out, ?_, HEE.out⟩
      exact HQE.out.fin HB.out HS.out (.int .i64 2) (.string ⟨#[]⟩) (.slice none 0 0) (.slice none 0 0)

set_option maxHeartbeats 16000000 in
theorem word_false (w W : World) (R p : Nat) (d e b : Int) (ao : Option Addr) (cap : Nat) (T : List Nat) (h : QS T w W R ao cap p d e b) :
    Calls Tryz.prog 60 #[.pointer (some ⟨R, 0, none⟩), .string ⟨#[102, 97, 108, 115, 101]⟩, .int .i64 1] W (QV T w R ao cap p e W.heap.size) := by
  have hb0 := bel W (.cells #[.int .i64 0, .string ⟨#[]⟩, .slice none 0 0, .slice none 0 0] 36)
  have hx0 := BoxC.new W 36 #[.int .i64 0, .string ⟨#[]⟩, .slice none 0 0, .slice none 0 0]
  have HSZ : Hid ((W.alloc (.cells #[.int .i64 0, .string ⟨#[]⟩, .slice none 0 0, .slice none 0 0] 36)).heap.size = W.heap.size + 1) := World.size_alloc _ _
  have HRW := hide h.rq.lt
  have HQE := hide h
  generalize hw0 : W.alloc (.cells #[.int .i64 0, .string ⟨#[]⟩, .slice none 0 0, .slice none 0 0] 36) = w0 at *
  have HW0 := hide hw0
  have HB := hide hb0
  have HX0 := hide hx0
  have HQ0 := hide (h.self hb0)
  clear h hw0 hb0 hx0
  have HI : Hid (∃ (i : Int) (q : Nat) (d' e' b' : Int), Value.int .i64 0 = .int .i64 i ∧ 0 ≤ i ∧ i ≤ 5 ∧ p ≤ q ∧ (e ≠ 0 → e' ≠ 0) ∧ QS T w0 w0 R ao cap q d' e' b') := ⟨0, p, d, e, b, rfl, by omega, by omega, Nat.le_refl _, fun h => h, HQ0.out⟩
  clear HQ0
  go_enter Tryz.func60, Tryz.ntmps60
  go_upto_region 1 with fail
  show Code.wp _ _ _ _ (W.alloc (.cells #[.int .i64 0, .string ⟨#[]⟩, .slice none 0 0, .slice none 0 0] 36))
  rw [HW0.out]
  clear HW0
  go_wp2
  go_loopw [7] (fun iv wr => ∃ (i : Int) (q : Nat) (d' e' b' : Int), iv = .int .i64 i ∧ 0 ≤ i ∧ i ≤ 5 ∧ p ≤ q ∧ (e ≠ 0 → e' ≠ 0) ∧ QS T w0 wr R ao cap q d' e' b') (fun iv _ => 5 - (RowKit.intOf iv).toNat)
  case atStart => exact HI.out
  case round =>
    obtain ⟨i, q, d0, e0, b0, rfl, hi0, hi1, hpq, hee, hs⟩ := hrel
    have HS := hide hs
    have HPQ := hide hpq
    have HEE := hide hee
    clear HI hs hpq hee
    obtain rfl | rfl | rfl | rfl | rfl | rfl : i = 0 ∨ i = 1 ∨ i = 2 ∨ i = 3 ∨ i = 4 ∨ i = 5 := by omega
    · have q0 : ∀ h, wrap64 (((({ data := #[102, 97, 108, 115, 101] } : ByteArray)[0]'h).toNat : Nat) : Int) = 102 := by intro h; exact wrap64_at (n := 102) (by omega)
      go_wp2_with fail
      rw [q0]
      clear q0
      refine (must_any w0 wr R q d0 e0 b0 102 ao cap T HS.out).mono ?_
      rintro r W1 ⟨rfl, q1, d1, e1, b1, hpq, hq, hee⟩
      have HREL : Hid (∃ (i : Int) (q : Nat) (d' e' b' : Int), Value.int .i64 1 = .int .i64 i ∧ 0 ≤ i ∧ i ≤ 5 ∧ p ≤ q ∧ (e ≠ 0 → e' ≠ 0) ∧ QS T w0 W1 R ao cap q d' e' b') := ⟨1, q1, d1, e1, b1, rfl, by omega, by omega, by have := HPQ.out; omega, fun h => hee (HEE.out h), hq⟩
      clear hpq hq hee
      go_wp2
      go_roundw
      case rel => exact HREL.out
      case measure => simp [RowKit.intOf]
    · have q0 : ∀ h, wrap64 (((({ data := #[102, 97, 108, 115, 101] } : ByteArray)[1]'h).toNat : Nat) : Int) = 97 := by intro h; exact wrap64_at (n := 97) (by omega)
      go_wp2_with fail
      rw [q0]
      clear q0
      refine (must_any w0 wr R q d0 e0 b0 97 ao cap T HS.out).mono ?_
      rintro r W1 ⟨rfl, q1, d1, e1, b1, hpq, hq, hee⟩
      have HREL : Hid (∃ (i : Int) (q : Nat) (d' e' b' : Int), Value.int .i64 2 = .int .i64 i ∧ 0 ≤ i ∧ i ≤ 5 ∧ p ≤ q ∧ (e ≠ 0 → e' ≠ 0) ∧ QS T w0 W1 R ao cap q d' e' b') := ⟨2, q1, d1, e1, b1, rfl, by omega, by omega, by have := HPQ.out; omega, fun h => hee (HEE.out h), hq⟩
      clear hpq hq hee
      go_wp2
      go_roundw
      case rel => exact HREL.out
      case measure => simp [RowKit.intOf]
    · have q0 : ∀ h, wrap64 (((({ data := #[102, 97, 108, 115, 101] } : ByteArray)[2]'h).toNat : Nat) : Int) = 108 := by intro h; exact wrap64_at (n := 108) (by omega)
      go_wp2_with fail
      rw [q0]
      clear q0
      refine (must_any w0 wr R q d0 e0 b0 108 ao cap T HS.out).mono ?_
      rintro r W1 ⟨rfl, q1, d1, e1, b1, hpq, hq, hee⟩
      have HREL : Hid (∃ (i : Int) (q : Nat) (d' e' b' : Int), Value.int .i64 3 = .int .i64 i ∧ 0 ≤ i ∧ i ≤ 5 ∧ p ≤ q ∧ (e ≠ 0 → e' ≠ 0) ∧ QS T w0 W1 R ao cap q d' e' b') := ⟨3, q1, d1, e1, b1, rfl, by omega, by omega, by have := HPQ.out; omega, fun h => hee (HEE.out h), hq⟩
      clear hpq hq hee
      go_wp2
      go_roundw
      case rel => exact HREL.out
      case measure => simp [RowKit.intOf]
    · have q0 : ∀ h, wrap64 (((({ data := #[102, 97, 108, 115, 101] } : ByteArray)[3]'h).toNat : Nat) : Int) = 115 := by intro h; exact wrap64_at (n := 115) (by omega)
      go_wp2_with fail
      rw [q0]
      clear q0
      refine (must_any w0 wr R q d0 e0 b0 115 ao cap T HS.out).mono ?_
      rintro r W1 ⟨rfl, q1, d1, e1, b1, hpq, hq, hee⟩
      have HREL : Hid (∃ (i : Int) (q : Nat) (d' e' b' : Int), Value.int .i64 4 = .int .i64 i ∧ 0 ≤ i ∧ i ≤ 5 ∧ p ≤ q ∧ (e ≠ 0 → e' ≠ 0) ∧ QS T w0 W1 R ao cap q d' e' b') := ⟨4, q1, d1, e1, b1, rfl, by omega, by omega, by have := HPQ.out; omega, fun h => hee (HEE.out h), hq⟩
      clear hpq hq hee
      go_wp2
      go_roundw
      case rel => exact HREL.out
      case measure => simp [RowKit.intOf]
    · have q0 : ∀ h, wrap64 (((({ data := #[102, 97, 108, 115, 101] } : ByteArray)[4]'h).toNat : Nat) : Int) = 101 := by intro h; exact wrap64_at (n := 101) (by omega)
      go_wp2_with fail
      rw [q0]
      clear q0
      refine (must_any w0 wr R q d0 e0 b0 101 ao cap T HS.out).mono ?_
      rintro r W1 ⟨rfl, q1, d1, e1, b1, hpq, hq, hee⟩
      have HREL : Hid (∃ (i : Int) (q : Nat) (d' e' b' : Int), Value.int .i64 5 = .int .i64 i ∧ 0 ≤ i ∧ i ≤ 5 ∧ p ≤ q ∧ (e ≠ 0 → e' ≠ 0) ∧ QS T w0 W1 R ao cap q d' e' b') := ⟨5, q1, d1, e1, b1, rfl, by omega, by omega, by have := HPQ.out; omega, fun h => hee (HEE.out h), hq⟩
      clear hpq hq hee
      go_wp2
      go_roundw
      case rel => exact HREL.out
      case measure => simp [RowKit.intOf]
    · have HX := hide (show BoxC wr W.heap.size 36 #[.int .i64 0, .string ⟨#[]⟩, .slice none 0 0, .slice none 0 0] from (HS.out.fr.block (k := W.heap.size) (by have := HSZ.out; omega) (by have := HRW.out; omega) (by simp)).trans HX0.out)
      have x0 := HX.out.cell 0
      have x1 := HX.out.cell 1
      have x2 := HX.out.cell 2
      have x3 := HX.out.cell 3
      have y0 := HX.out.frozen 0
      have y1 := HX.out.frozen 1
      have y2 := HX.out.frozen 2
      have y3 := HX.out.frozen 3
      have lX := HX.out.lt
      go_wp2
      have z := (((HX.out.set 0 (.int .i64 1)).set 1 (.string ⟨#[]⟩)).set 2 (.slice none 0 0)).set 3 (.slice none 0 0)
      refine bodyPost_ret (results_rv rfl rfl z) rfl ?_
      refine ⟨(1, ⟨#[]⟩, .slice none 0 0, .slice none 0 0), _, rfl, tin_leaf _ _ _ _, sz_leaf _ _ _ (Nat.zero_le _), q, d0, e0, b0, HPQ.out, ?_, HEE.out⟩
      exact HQE.out.fin HB.out HS.out (.int .i64 1) (.string ⟨#[]⟩) (.slice none 0 0) (.slice none 0 0)

set_option maxHeartbeats 16000000 in
theorem word_null (w W : World) (R p : Nat) (d e b : Int) (ao : Option Addr) (cap : Nat) (T : List Nat) (h : QS T w W R ao cap p d e b) :
    Calls Tryz.prog 60 #[.pointer (some ⟨R, 0, none⟩), .string ⟨#[110, 117, 108, 108]⟩, .int .i64 0] W (QV T w R ao cap p e W.heap.size) := by
  have hb0 := bel W (.cells #[.int .i64 0, .string ⟨#[]⟩, .slice none 0 0, .slice none 0 0] 36)
  have hx0 := BoxC.new W 36 #[.int .i64 0, .string ⟨#[]⟩, .slice none 0 0, .slice none 0 0]
  have HSZ : Hid ((W.alloc (.cells #[.int .i64 0, .string ⟨#[]⟩, .slice none 0 0, .slice none 0 0] 36)).heap.size = W.heap.size + 1) := World.size_alloc _ _
  have HRW := hide h.rq.lt
  have HQE := hide h
  generalize hw0 : W.alloc (.cells #[.int .i64 0, .string ⟨#[]⟩, .slice none 0 0, .slice none 0 0] 36) = w0 at *
  have HW0 := hide hw0
  have HB := hide hb0
  have HX0 := hide hx0
  have HQ0 := hide (h.self hb0)
  clear h hw0 hb0 hx0
  have HI : Hid (∃ (i : Int) (q : Nat) (d' e' b' : Int), Value.int .i64 0 = .int .i64 i ∧ 0 ≤ i ∧ i ≤ 4 ∧ p ≤ q ∧ (e ≠ 0 → e' ≠ 0) ∧ QS T w0 w0 R ao cap q d' e' b') := ⟨0, p, d, e, b, rfl, by omega, by omega, Nat.le_refl _, fun h => h, HQ0.out⟩
  clear HQ0
  go_enter Tryz.func60, Tryz.ntmps60
  go_upto_region 1 with fail
  show Code.wp _ _ _ _ (W.alloc (.cells #[.int .i64 0, .string ⟨#[]⟩, .slice none 0 0, .slice none 0 0] 36))
  rw [HW0.out]
  clear HW0
  go_wp2
  go_loopw [7] (fun iv wr => ∃ (i : Int) (q : Nat) (d' e' b' : Int), iv = .int .i64 i ∧ 0 ≤ i ∧ i ≤ 4 ∧ p ≤ q ∧ (e ≠ 0 → e' ≠ 0) ∧ QS T w0 wr R ao cap q d' e' b') (fun iv _ => 4 - (RowKit.intOf iv).toNat)
  case atStart => exact HI.out
  case round =>
    obtain ⟨i, q, d0, e0, b0, rfl, hi0, hi1, hpq, hee, hs⟩ := hrel
    have HS := hide hs
    have HPQ := hide hpq
    have HEE := hide hee
    clear HI hs hpq hee
    obtain rfl | rfl | rfl | rfl | rfl : i = 0 ∨ i = 1 ∨ i = 2 ∨ i = 3 ∨ i = 4 := by omega
    · have q0 : ∀ h, wrap64 (((({ data := #[110, 117, 108, 108] } : ByteArray)[0]'h).toNat : Nat) : Int) = 110 := by intro h; exact wrap64_at (n := 110) (by omega)
      go_wp2_with fail
      rw [q0]
      clear q0
      refine (must_any w0 wr R q d0 e0 b0 110 ao cap T HS.out).mono ?_
      rintro r W1 ⟨rfl, q1, d1, e1, b1, hpq, hq, hee⟩
      have HREL : Hid (∃ (i : Int) (q : Nat) (d' e' b' : Int), Value.int .i64 1 = .int .i64 i ∧ 0 ≤ i ∧ i ≤ 4 ∧ p ≤ q ∧ (e ≠ 0 → e' ≠ 0) ∧ QS T w0 W1 R ao cap q d' e' b') := ⟨1, q1, d1, e1, b1, rfl, by omega, by omega, by have := HPQ.out; omega, fun h => hee (HEE.out h), hq⟩
      clear hpq hq hee
      go_wp2
      go_roundw
      case rel => exact HREL.out
      case measure => simp [RowKit.intOf]
    · have q0 : ∀ h, wrap64 (((({ data := #[110, 117, 108, 108] } : ByteArray)[1]'h).toNat : Nat) : Int) = 117 := by intro h; exact wrap64_at (n := 117) (by omega)
      go_wp2_with fail
      rw [q0]
      clear q0
      refine (must_any w0 wr R q d0 e0 b0 117 ao cap T HS.out).mono ?_
      rintro r W1 ⟨rfl, q1, d1, e1, b1, hpq, hq, hee⟩
      have HREL : Hid (∃ (i : Int) (q : Nat) (d' e' b' : Int), Value.int .i64 2 = .int .i64 i ∧ 0 ≤ i ∧ i ≤ 4 ∧ p ≤ q ∧ (e ≠ 0 → e' ≠ 0) ∧ QS T w0 W1 R ao cap q d' e' b') := ⟨2, q1, d1, e1, b1, rfl, by omega, by omega, by have := HPQ.out; omega, fun h => hee (HEE.out h), hq⟩
      clear hpq hq hee
      go_wp2
      go_roundw
      case rel => exact HREL.out
      case measure => simp [RowKit.intOf]
    · have q0 : ∀ h, wrap64 (((({ data := #[110, 117, 108, 108] } : ByteArray)[2]'h).toNat : Nat) : Int) = 108 := by intro h; exact wrap64_at (n := 108) (by omega)
      go_wp2_with fail
      rw [q0]
      clear q0
      refine (must_any w0 wr R q d0 e0 b0 108 ao cap T HS.out).mono ?_
      rintro r W1 ⟨rfl, q1, d1, e1, b1, hpq, hq, hee⟩
      have HREL : Hid (∃ (i : Int) (q : Nat) (d' e' b' : Int), Value.int .i64 3 = .int .i64 i ∧ 0 ≤ i ∧ i ≤ 4 ∧ p ≤ q ∧ (e ≠ 0 → e' ≠ 0) ∧ QS T w0 W1 R ao cap q d' e' b') := ⟨3, q1, d1, e1, b1, rfl, by omega, by omega, by have := HPQ.out; omega, fun h => hee (HEE.out h), hq⟩
      clear hpq hq hee
      go_wp2
      go_roundw
      case rel => exact HREL.out
      case measure => simp [RowKit.intOf]
    · have q0 : ∀ h, wrap64 (((({ data := #[110, 117, 108, 108] } : ByteArray)[3]'h).toNat : Nat) : Int) = 108 := by intro h; exact wrap64_at (n := 108) (by omega)
      go_wp2_with fail
      rw [q0]
      clear q0
      refine (must_any w0 wr R q d0 e0 b0 108 ao cap T HS.out).mono ?_
      rintro r W1 ⟨rfl, q1, d1, e1, b1, hpq, hq, hee⟩
      have HREL : Hid (∃ (i : Int) (q : Nat) (d' e' b' : Int), Value.int .i64 4 = .int .i64 i ∧ 0 ≤ i ∧ i ≤ 4 ∧ p ≤ q ∧ (e ≠ 0 → e' ≠ 0) ∧ QS T w0 W1 R ao cap q d' e' b') := ⟨4, q1, d1, e1, b1, rfl, by omega, by omega, by have := HPQ.out; omega, fun h => hee (HEE.out h), hq⟩
      clear hpq hq hee
      go_wp2
      go_roundw
      case rel => exact HREL.out
      case measure => simp [RowKit.intOf]
    · have HX := hide (show BoxC wr W.heap.size 36 #[.int .i64 0, .string ⟨#[]⟩, .slice none 0 0, .slice none 0 0] from (HS.out.fr.block (k := W.heap.size) (by have := HSZ.out; omega) (by have := HRW.out; omega) (by simp)).trans HX0.out)
      have x0 := HX.out.cell 0
      have x1 := HX.out.cell 1
      have x2 := HX.out.cell 2
      have x3 := HX.out.cell 3
      have y0 := HX.out.frozen 0
      have y1 := HX.out.frozen 1
      have y2 := HX.out.frozen 2
      have y3 := HX.out.frozen 3
      have lX := HX.out.lt
      go_wp2
      have z := (((HX.out.set 0 (.int .i64 0)).set 1 (.string ⟨#[]⟩)).set 2 (.slice none 0 0)).set 3 (.slice none 0 0)
      refine bodyPost_ret (results_rv rfl rfl z) rfl ?_
      refine ⟨(0, ⟨#[]⟩, .slice none 0 0, .slice none 0 0), _, rfl, tin_leaf _ _ _ _, sz_leaf _ _ _ (Nat.zero_le _), q, d0, e0, b0, HPQ.out, ?_, HEE.out⟩
      exact HQE.out.fin HB.out HS.out (.int .i64 0) (.string ⟨#[]⟩) (.slice none 0 0) (.slice none 0 0)

end Go.Proofs.YtbdpmpepmjpadaaGreatDoor

namespace Go.Proofs.YtbdpmpepmjpadaaGreatDoor
set_option linter.unusedVariables false
set_option linter.unusedSimpArgs false
set_option maxRecDepth 100000
open Go Go.RowKit Go.Shelf Go.Lib

theorem QM.of {T : List Nat} {w W : World} {R : Nat} {ao : Option Addr} {cap p q : Nat} {d e e0 b : Int} (h : QS T w W R ao cap q d e b) (hp : p ≤ q) (he : e0 ≠ 0 → e ≠ 0) : QM T w R ao cap p e0 W := ⟨q, d, e, b, hp, h, he⟩
theorem QM.to {T : List Nat} {w W : World} {R : Nat} {ao : Option Addr} {cap p q : Nat} {e e0 : Int} (h : QM T w R ao cap q e W) (hp : p ≤ q) (he : e0 ≠ 0 → e ≠ 0) : QM T w R ao cap p e0 W := by
  obtain ⟨q', d', e', b', h1, h2, h3⟩ := h
  exact ⟨q', d', e', b', Nat.le_trans hp h1, h2, fun h => h3 (he h)⟩

set_option maxHeartbeats 16000000 in
theorem number_any (w W : World) (R p : Nat) (d e b : Int) (ao : Option Addr) (cap : Nat) (T : List Nat) (h : QS T w W R ao cap p d e b) :
    Calls Tryz.prog 61 #[.pointer (some ⟨R, 0, none⟩)] W (QV T w R ao cap p e W.heap.size) := by
  have hb0 := bel W (.cells #[.int .i64 0, .string ⟨#[]⟩, .slice none 0 0, .slice none 0 0] 36)
  have hx0 := BoxC.new W 36 #[.int .i64 0, .string ⟨#[]⟩, .slice none 0 0, .slice none 0 0]
  have HSZ : Hid ((W.alloc (.cells #[.int .i64 0, .string ⟨#[]⟩, .slice none 0 0, .slice none 0 0] 36)).heap.size = W.heap.size + 1) := World.size_alloc _ _
  have HRW := hide h.rq.lt
  have HL := hide h.tx.len
  have HPL := hide h.le
  have HQE := hide h
  generalize hw0 : W.alloc (.cells #[.int .i64 0, .string ⟨#[]⟩, .slice none 0 0, .slice none 0 0] 36) = w0 at *
  have HW0 := hide hw0
  have HB := hide hb0
  have HX0 := hide hx0
  have HQ0 := hide (h.self hb0)
  clear h hw0 hb0 hx0
  have c1 : w0.cell? ⟨R, 1, none⟩ = some (.int .i64 (p : Int)) := HQ0.out.rq.cell 1
  have lR : R < w0.heap.size := HQ0.out.rq.lt
  go_enter Tryz.func61, Tryz.ntmps61
  go_upto_region 1 with fail
  show Code.wp _ _ _ _ (W.alloc (.cells #[.int .i64 0, .string ⟨#[]⟩, .slice none 0 0, .slice none 0 0] 36))
  rw [HW0.out]
  clear HW0
  go_wp2_with fail
  refine (see_q w0 w0 R p d e b ao cap T HQ0.out).mono ?_
  rintro r W1 ⟨x1, rfl, hq, hx, h1_1, h2_1⟩
  have HQ1 := hide hq
  have HX1 := hide hx
  clear hq hx
  go_upto_if 11 with fail
  go_cut [] from 11 to 18 (fun wx => QM T w0 R ao cap p e wx)
  case first =>
    by_cases k1 : x1 = 45
    · subst k1
      have SX : Hid (p < T.length) := by
        rcases HX1.out with h | h
        · have := h.1; omega
        · exact hide h.2.1
      have c1_1 : W1.cell? ⟨R, 1, none⟩ = some (.int .i64 (p : Int)) := HQ1.out.rq.cell 1
      have f1_1 : W1.frozen? ⟨R, 1, none⟩ = false := HQ1.out.rq.frozen 1
      have lR_1 : R < W1.heap.size := HQ1.out.rq.lt
      obtain ⟨q2, hq2⟩ : ∃ qz, p + 1 = qz := ⟨_, rfl⟩
      have e1_2 : (p : Int) + 1 = (q2 : Int) := by omega
      have g2 : (p : Int) ≤ 1000000 := by have := HL.out; have := HQ1.out.le; omega
      have HP2 := hide hq2
      clear hq2
      have HQ2 := hide (HQ1.out.step (q := q2) (by have := HP2.out; omega) (by have := HP2.out; have := SX.out; omega))
      go_wp2
      go_meet
      exact QM.of HQ2.out (by have := HP2.out; omega) (fun h => h)
    · have d1 : (x1 == 45) = false := by simpa using k1
      go_wp2
      go_meet
      exact QM.of HQ1.out (Nat.le_refl _) (fun h => h)
  case rest =>
    obtain ⟨r101, d101, e101, b101, hpq, hq, hee⟩ := hcut
    have HQ101 := hide hq
    have HP101 := hide hpq
    have HE101 := hide hee
    clear hpq hq hee
    generalize wc = V101 at *
    go_wp2_with fail
    refine (peek_q w0 V101 R r101 d101 e101 b101 ao cap T HQ101.out).mono ?_
    rintro r W2 ⟨x2, e2, b2, rfl, hq, h1_2, h2_2, hx⟩
    have HQ2 := hide hq
    have HX2 := hide hx
    clear hq hx
    go_upto_if 22 with fail
    go_cut [] from 22 to 31 (fun wx => QM T w0 R ao cap p e wx)
    case first =>
      by_cases k1 : x2 = 48
      · subst k1
        have SX : Hid (r101 < T.length) := by
          rcases HX2.out with h | h
          · have := h.1; omega
          · exact hide h.2.2.1
        have c1_2 : W2.cell? ⟨R, 1, none⟩ = some (.int .i64 (r101 : Int)) := HQ2.out.rq.cell 1
        have f1_2 : W2.frozen? ⟨R, 1, none⟩ = false := HQ2.out.rq.frozen 1
        have lR_2 : R < W2.heap.size := HQ2.out.rq.lt
        obtain ⟨q3, hq3⟩ : ∃ qz, r101 + 1 = qz := ⟨_, rfl⟩
        have e1_3 : (r101 : Int) + 1 = (q3 : Int) := by omega
        have g3 : (r101 : Int) ≤ 1000000 := by have := HL.out; have := HQ2.out.le; omega
        have HP3 := hide hq3
        clear hq3
        have HQ3 := hide (HQ2.out.step (q := q3) (by have := HP3.out; omega) (by have := HP3.out; have := SX.out; omega))
        go_wp2
        go_meet
        exact QM.of HQ3.out (by have := HP3.out; have := HP101.out; omega) (fun h => by have := HX2.out; have := HE101.out h; omega)
      · have d1 : (x2 == 48) = false := by simpa using k1
        go_wp2_with fail
        refine (digits_any w0 W2 R r101 d101 e2 b2 ao cap T HQ2.out).mono ?_
        rintro r W3 ⟨rfl, q3, d3, e3, b3, hpq, hq, hee⟩
        have HQ3 := hide hq
        have HP3 := hide hpq
        have HE3 := hide hee
        clear hq hpq hee
        go_wp2
        go_meet
        exact QM.of HQ3.out (by have := HP3.out; have := HP101.out; omega) (fun h => HE3.out ((fun h => by have := HX2.out; have := HE101.out h; omega) h))
    case rest =>
      obtain ⟨r102, d102, e102, b102, hpq, hq, hee⟩ := hcut
      have HQ102 := hide hq
      have HP102 := hide hpq
      have HE102 := hide hee
      clear hpq hq hee
      generalize wc = V102 at *
      go_wp2_with fail
      refine (see_q w0 V102 R r102 d102 e102 b102 ao cap T HQ102.out).mono ?_
      rintro r W3 ⟨x3, rfl, hq, hx, h1_3, h2_3⟩
      have HQ3 := hide hq
      have HX3 := hide hx
      clear hq hx
      go_upto_if 34 with fail
      go_cut [] from 34 to 43 (fun wx => QM T w0 R ao cap p e wx)
      case first =>
        by_cases k1 : x3 = 46
        · subst k1
          have SX : Hid (r102 < T.length) := by
            rcases HX3.out with h | h
            · have := h.1; omega
            · exact hide h.2.1
          have c1_3 : W3.cell? ⟨R, 1, none⟩ = some (.int .i64 (r102 : Int)) := HQ3.out.rq.cell 1
          have f1_3 : W3.frozen? ⟨R, 1, none⟩ = false := HQ3.out.rq.frozen 1
          have lR_3 : R < W3.heap.size := HQ3.out.rq.lt
          obtain ⟨q4, hq4⟩ : ∃ qz, r102 + 1 = qz := ⟨_, rfl⟩
          have e1_4 : (r102 : Int) + 1 = (q4 : Int) := by omega
          have g4 : (r102 : Int) ≤ 1000000 := by have := HL.out; have := HQ3.out.le; omega
          have HP4 := hide hq4
          clear hq4
          have HQ4 := hide (HQ3.out.step (q := q4) (by have := HP4.out; omega) (by have := HP4.out; have := SX.out; omega))
          go_wp2_with fail
          refine (digits_any w0 (W3.setCell ⟨R, 1, none⟩ (.int .i64 (q4 : Int))) R q4 d102 e102 b102 ao cap T HQ4.out).mono ?_
          rintro r W5 ⟨rfl, q5, d5, e5, b5, hpq, hq, hee⟩
          have HQ5 := hide hq
          have HP5 := hide hpq
          have HE5 := hide hee
          clear hq hpq hee
          go_wp2
          go_meet
          exact QM.of HQ5.out (by have := HP5.out; have := HP4.out; have := HP102.out; omega) (fun h => HE5.out (HE102.out h))
        · have d1 : (x3 == 46) = false := by simpa using k1
          go_wp2
          go_meet
          exact QM.of HQ3.out HP102.out HE102.out
      case rest =>
        obtain ⟨r103, d103, e103, b103, hpq, hq, hee⟩ := hcut
        have HQ103 := hide hq
        have HP103 := hide hpq
        have HE103 := hide hee
        clear hpq hq hee
        generalize wc = V103 at *
        go_wp2_with fail
        refine (see_q w0 V103 R r103 d103 e103 b103 ao cap T HQ103.out).mono ?_
        rintro r W4 ⟨x4, rfl, hq, hx, h1_4, h2_4⟩
        have HQ4 := hide hq
        have HX4 := hide hx
        clear hq hx
        go_upto_region 12 with fail
        go_cut [51] from 46 to 50 (fun s51 wx => s51 = .bool (decide (x4 = 101 ∨ x4 = 69)) ∧ wx = W4)
        case first =>
          by_cases k1 : x4 = 101
          · subst k1
            go_wp2
            go_meet
            exact ⟨rfl, rfl⟩
          · have d1 : (x4 == 101) = false := by simpa using k1
            by_cases k2 : x4 = 69
            · subst k2
              go_wp2
              go_meet
              exact ⟨by simp, rfl⟩
            · have d2 : (x4 == 69) = false := by simpa using k2
              go_wp2
              go_meet
              exact ⟨by simp [k1, k2], rfl⟩
        case rest =>
          obtain ⟨rfl, hwc⟩ := hcut
          rw [hwc]
          clear hwc
          go_upto_if 51 with fail
          go_cut [4] from 51 to 75 (fun s4 wx => QM T w0 R ao cap p e wx)
          case first =>
            obtain ⟨bE, hbE⟩ : ∃ bE, decide (x4 = 101 ∨ x4 = 69) = bE := ⟨_, rfl⟩
            rw [hbE]
            cases bE
            · clear hbE
              go_wp2
              go_meet
              exact QM.of HQ4.out HP103.out HE103.out
            · have kE : x4 = 101 ∨ x4 = 69 := of_decide_eq_true hbE
              clear hbE
              have SX : Hid (e103 = (0 : Int) ∧ r103 < T.length) := by
                rcases HX4.out with h | h
                · have := h.1; omega
                · exact hide ⟨h.1, h.2.1⟩
              clear kE
              have c1_4 : W4.cell? ⟨R, 1, none⟩ = some (.int .i64 (r103 : Int)) := HQ4.out.rq.cell 1
              have f1_4 : W4.frozen? ⟨R, 1, none⟩ = false := HQ4.out.rq.frozen 1
              have lR_4 : R < W4.heap.size := HQ4.out.rq.lt
              obtain ⟨q5, hq5⟩ : ∃ qz, r103 + 1 = qz := ⟨_, rfl⟩
              have e1_5 : (r103 : Int) + 1 = (q5 : Int) := by omega
              have g5 : (r103 : Int) ≤ 1000000 := by have := HL.out; have := HQ4.out.le; omega
              have HP5 := hide hq5
              clear hq5
              have HQ5 := hide (HQ4.out.step (q := q5) (by have := HP5.out; omega) (by have := HP5.out; have := SX.out.2; omega))
              go_wp2_with fail
              refine (see_q w0 (W4.setCell ⟨R, 1, none⟩ (.int .i64 (q5 : Int))) R q5 d103 e103 b103 ao cap T HQ5.out).mono ?_
              rintro r W6 ⟨x6, rfl, hq, hx, h1_6, h2_6⟩
              have HQ6 := hide hq
              have HX6 := hide hx
              clear hq hx
              by_cases k3 : x6 = 43
              · subst k3
                have SY : Hid (q5 < T.length) := by
                  rcases HX6.out with h | h
                  · have := h.1; omega
                  · exact hide h.2.1
                have c1_6 : W6.cell? ⟨R, 1, none⟩ = some (.int .i64 (q5 : Int)) := HQ6.out.rq.cell 1
                have f1_6 : W6.frozen? ⟨R, 1, none⟩ = false := HQ6.out.rq.frozen 1
                have lR_6 : R < W6.heap.size := HQ6.out.rq.lt
                obtain ⟨q7, hq7⟩ : ∃ qz, q5 + 1 = qz := ⟨_, rfl⟩
                have e1_7 : (q5 : Int) + 1 = (q7 : Int) := by omega
                have g7 : (q5 : Int) ≤ 1000000 := by have := HL.out; have := HQ6.out.le; omega
                have HP7 := hide hq7
                clear hq7
                have HQ7 := hide (HQ6.out.step (q := q7) (by have := HP7.out; omega) (by have := HP7.out; have := SY.out; omega))
                go_wp2_with fail
                refine (digits_any w0 (W6.setCell ⟨R, 1, none⟩ (.int .i64 (q7 : Int))) R q7 d103 e103 b103 ao cap T HQ7.out).mono ?_
                rintro r W8 ⟨rfl, q8, d8, e8, b8, hpq, hq, hee⟩
                have HQ8 := hide hq
                have HP8 := hide hpq
                have HE8 := hide hee
                clear hq hpq hee
                go_wp2
                go_meet
                exact QM.of HQ8.out (by have := HP8.out; have := HP7.out; have := HP5.out; have := HP103.out; omega) (fun h => HE8.out (HE103.out h))
              · have d3 : (x6 == 43) = false := by simpa using k3
                by_cases k4 : x6 = 45
                · subst k4
                  have SY : Hid (q5 < T.length) := by
                    rcases HX6.out with h | h
                    · have := h.1; omega
                    · exact hide h.2.1
                  have c1_6 : W6.cell? ⟨R, 1, none⟩ = some (.int .i64 (q5 : Int)) := HQ6.out.rq.cell 1
                  have f1_6 : W6.frozen? ⟨R, 1, none⟩ = false := HQ6.out.rq.frozen 1
                  have lR_6 : R < W6.heap.size := HQ6.out.rq.lt
                  obtain ⟨q7, hq7⟩ : ∃ qz, q5 + 1 = qz := ⟨_, rfl⟩
                  have e1_7 : (q5 : Int) + 1 = (q7 : Int) := by omega
                  have g7 : (q5 : Int) ≤ 1000000 := by have := HL.out; have := HQ6.out.le; omega
                  have HP7 := hide hq7
                  clear hq7
                  have HQ7 := hide (HQ6.out.step (q := q7) (by have := HP7.out; omega) (by have := HP7.out; have := SY.out; omega))
                  go_wp2_with fail
                  refine (digits_any w0 (W6.setCell ⟨R, 1, none⟩ (.int .i64 (q7 : Int))) R q7 d103 e103 b103 ao cap T HQ7.out).mono ?_
                  rintro r W8 ⟨rfl, q8, d8, e8, b8, hpq, hq, hee⟩
                  have HQ8 := hide hq
                  have HP8 := hide hpq
                  have HE8 := hide hee
                  clear hq hpq hee
                  go_wp2
                  go_meet
                  exact QM.of HQ8.out (by have := HP8.out; have := HP7.out; have := HP5.out; have := HP103.out; omega) (fun h => HE8.out (HE103.out h))
                · have d4 : (x6 == 45) = false := by simpa using k4
                  go_wp2_with fail
                  refine (digits_any w0 W6 R q5 d103 e103 b103 ao cap T HQ6.out).mono ?_
                  rintro r W7 ⟨rfl, q7, d7, e7, b7, hpq, hq, hee⟩
                  have HQ7 := hide hq
                  have HP7 := hide hpq
                  have HE7 := hide hee
                  clear hq hpq hee
                  go_wp2
                  go_meet
                  exact QM.of HQ7.out (by have := HP7.out; have := HP5.out; have := HP103.out; omega) (fun h => HE7.out (HE103.out h))
          case rest =>
            obtain ⟨r104, d104, e104, b104, hpq, hq, hee⟩ := hcut
            have HQ104 := hide hq
            have HP104 := hide hpq
            have HE104 := hide hee
            clear hpq hq hee
            generalize wc = V104 at *
            have HX := hide (show BoxC V104 W.heap.size 36 #[.int .i64 0, .string ⟨#[]⟩, .slice none 0 0, .slice none 0 0] from (HQ104.out.fr.block (k := W.heap.size) (by have := HSZ.out; omega) (by have := HRW.out; omega) (by simp)).trans HX0.out)
            have x0_ := HX.out.cell 0
            have y0_ := HX.out.frozen 0
            have x1_ := HX.out.cell 1
            have y1_ := HX.out.frozen 1
            have x2_ := HX.out.cell 2
            have y2_ := HX.out.frozen 2
            have x3_ := HX.out.cell 3
            have y3_ := HX.out.frozen 3
            have lX := HX.out.lt
            have c1_4 : V104.cell? ⟨R, 1, none⟩ = some (.int .i64 (r104 : Int)) := HQ104.out.rq.cell 1
            have c3_4 : V104.cell? ⟨R, 3, none⟩ = some (.int .i64 e104) := HQ104.out.rq.cell 3
            have lR_4 : R < V104.heap.size := HQ104.out.rq.lt
            have c0_4 : V104.cell? ⟨R, 0, none⟩ = some (.slice ao T.length cap) := HQ104.out.rq.cell 0
            by_cases he : e104 = 0
            · have dz : (e104 != 0) = false := by simpa using he
              have HBY := hide (HQ104.out.tx.byts.mid HP104.out HQ104.out.le HQ104.out.tx.cap)
              have hcut2 := fun W => cut_mid W ao T.length cap p r104 HP104.out HQ104.out.le HQ104.out.tx.cap
              have hcv := conv_byts (HBY.out.below (Below.refl V104.heap.size V104).drew)
              obtain ⟨st, hst⟩ : ∃ st, strOf ((T.drop p).take (r104 - p)) = st := ⟨_, rfl⟩
              rw [hst] at hcv
              have HST : Hid (st.size ≤ 4 * T.length) := by rw [← hst]; simp [strOf, ByteArray.size]; unfold Hid; have := HQ104.out.le; omega
              clear hst
              generalize (if cap = p then ao else ao.map (·.add p)) = ao2 at *
              go_upto_region 20 with fail
              go_region_with (fail)
              all_goals
                go_wp2
                have z := ((((HX.out.set 0 (.int .i64 3)).set 1 (.string st)).set 2 (.slice none 0 0)).set 3 (.slice none 0 0)).below (Below.refl _ _).drew
                refine bodyPost_ret (results_rv rfl rfl z) rfl ?_
                have hq := HQE.out.fin HB.out HQ104.out (.int .i64 3) (.string st) (.slice none 0 0) (.slice none 0 0)
                exact ⟨(3, st, .slice none 0 0, .slice none 0 0), _, rfl, tin_leaf _ _ _ _, sz_leaf _ _ _ HST.out, r104, d104, e104, b104, HP104.out, hq.below (Below.refl _ _).drew, HE104.out⟩
            · have dz : (e104 != 0) = true := by simpa using he
              go_wp2
              have z := (((HX.out.set 0 (.int .i64 0)).set 1 (.string ⟨#[]⟩)).set 2 (.slice none 0 0)).set 3 (.slice none 0 0)
              refine bodyPost_ret (results_rv rfl rfl z) rfl ?_
              exact ⟨(0, ⟨#[]⟩, .slice none 0 0, .slice none 0 0), _, rfl, tin_leaf _ _ _ _, sz_leaf _ _ _ (Nat.zero_le _), r104, d104, e104, b104, HP104.out, HQE.out.fin HB.out HQ104.out (.int .i64 0) (.string ⟨#[]⟩) (.slice none 0 0) (.slice none 0 0), HE104.out⟩

end Go.Proofs.YtbdpmpepmjpadaaGreatDoor

namespace Go.Proofs.YtbdpmpepmjpadaaGreatDoor
end Go.Proofs.YtbdpmpepmjpadaaGreatDoor

namespace Go.Proofs.YtbdpmpepmjpadaaGreatDoor
set_option linter.unusedVariables false
set_option linter.unusedSimpArgs false
set_option maxRecDepth 100000
open Go Go.RowKit Go.Shelf Go.Lib

theorem byts_nil (W : World) : Byts W (.slice none 0 0) [] := ⟨none, 0, rfl, by simp, fun j h => by simp at h⟩
/-- What escape answers: some bytes, at most four; it stands further. -/
def EscR (T : List Nat) (w : World) (R : Nat) (ao : Option Addr) (cap p : Nat) (r : Ending) (w' : World) : Prop :=
  ∃ (v : Value) (S : List Nat) (q : Nat) (d' e' b' : Int), r = .returned v ∧ Byts w' v S ∧ S.length ≤ 4 ∧ p < q ∧ QS T w w' R ao cap q d' e' b'
theorem sz_of {W : World} {n m : Nat} {S : List Nat} (e : n = m) (h : Byts W (.slice (some ⟨n, 0, none⟩) 1 1) S) : Byts W (.slice (some ⟨m, 0, none⟩) 1 1) S := e ▸ h
theorem encL_len (n : Nat) : (encL n).length ≤ 4 := by
  unfold encL
  split
  · simp
  · split
    · simp
    · split <;> simp

set_option maxHeartbeats 16000000 in
theorem escape_any (w W : World) (R p : Nat) (d b : Int) (ao : Option Addr) (cap : Nat) (T : List Nat) (h : QS T w W R ao cap p d 0 b) (hlt : p < T.length) :
    Calls Tryz.prog 84 #[.pointer (some ⟨R, 0, none⟩)] W (EscR T w R ao cap p) := by
  have HL := hide h.tx.len
  have HQ0 := hide h
  have LT := hide hlt
  clear h hlt
  have c1_0 : W.cell? ⟨R, 1, none⟩ = some (.int .i64 (p : Int)) := HQ0.out.rq.cell 1
  have f1_0 : W.frozen? ⟨R, 1, none⟩ = false := HQ0.out.rq.frozen 1
  have lR_0 : R < W.heap.size := HQ0.out.rq.lt
  obtain ⟨q1, hq1⟩ : ∃ qz, p + 1 = qz := ⟨_, rfl⟩
  have e1_1 : (p : Int) + 1 = (q1 : Int) := by omega
  have g1 : (p : Int) ≤ 1000000 := by have := HL.out; have := HQ0.out.le; omega
  have HP1 := hide hq1
  clear hq1
  have HQ1 := hide (HQ0.out.step (q := q1) (by have := HP1.out; omega) (by have := HP1.out; have := LT.out; omega))
  go_enter Tryz.func84, Tryz.ntmps84
  go_wp2_with fail
  refine (peek_q w (W.setCell ⟨R, 1, none⟩ (.int .i64 (q1 : Int))) R q1 d 0 b ao cap T HQ1.out).mono ?_
  rintro r W2 ⟨x2, e2, b2, rfl, hq, h1_2, h2_2, hx⟩
  have HQ2 := hide hq
  have HX2 := hide hx
  clear hq hx
  have c1_2 : W2.cell? ⟨R, 1, none⟩ = some (.int .i64 (q1 : Int)) := HQ2.out.rq.cell 1
  have c3_2 : W2.cell? ⟨R, 3, none⟩ = some (.int .i64 e2) := HQ2.out.rq.cell 3
  have f1_2 : W2.frozen? ⟨R, 1, none⟩ = false := HQ2.out.rq.frozen 1
  have lR_2 : R < W2.heap.size := HQ2.out.rq.lt
  by_cases he : e2 = 0
  · subst he
    have LT2 : Hid (q1 < T.length) := by
      rcases HX2.out with h | h
      · exact absurd rfl h.2
      · exact hide h.2.2.1
    have x0 : 0 ≤ x2 := by
      rcases HX2.out with h | h
      · exact absurd rfl h.2
      · exact h.2.2.2
    clear HX2
    have HBX := hide (BoxC.new W2 5 #[.int .u8 34, .int .u8 92, .int .u8 47, .int .u8 8, .int .u8 12, .int .u8 10, .int .u8 13, .int .u8 9])
    have hbx := bel W2 (.cells #[.int .u8 34, .int .u8 92, .int .u8 47, .int .u8 8, .int .u8 12, .int .u8 10, .int .u8 13, .int .u8 9] 5)
    have HSZ : Hid ((W2.alloc (.cells #[.int .u8 34, .int .u8 92, .int .u8 47, .int .u8 8, .int .u8 12, .int .u8 10, .int .u8 13, .int .u8 9] 5)).heap.size = W2.heap.size + 1) := World.size_alloc _ _
    obtain ⟨w3, hw3⟩ : ∃ w3, W2.alloc (.cells #[.int .u8 34, .int .u8 92, .int .u8 47, .int .u8 8, .int .u8 12, .int .u8 10, .int .u8 13, .int .u8 9] 5) = w3 := ⟨_, rfl⟩
    rw [hw3] at HBX hbx HSZ
    have HW3 := hide hw3
    have HQ3 := hide (HQ2.out.below hbx)
    clear hw3 hbx
    go_upto_region 8 with fail
    show Code.wp _ _ _ _ (W2.alloc (.cells #[.int .u8 34, .int .u8 92, .int .u8 47, .int .u8 8, .int .u8 12, .int .u8 10, .int .u8 13, .int .u8 9] 5))
    rw [HW3.out]
    clear HW3
    have hnb : ¬ R = W2.heap.size := by have := HQ2.out.rq.lt; omega
    have hnc : ¬ W2.heap.size = R := by omega
    have lB : W2.heap.size < w3.heap.size := by have := HSZ.out; omega
    obtain ⟨B, hB⟩ : ∃ B, W2.heap.size = B := ⟨_, rfl⟩
    rw [hB] at HBX hnb hnc lB HSZ ⊢
    clear hB
    have c1_10 : w3.cell? ⟨R, 1, none⟩ = some (.int .i64 (q1 : Int)) := HQ3.out.rq.cell 1
    have c3_10 : w3.cell? ⟨R, 3, none⟩ = some (.int .i64 0) := HQ3.out.rq.cell 3
    have f1_10 : w3.frozen? ⟨R, 1, none⟩ = false := HQ3.out.rq.frozen 1
    have lR_10 : R < w3.heap.size := HQ3.out.rq.lt
    go_wp2
    go_loopw [7] (fun iv wr => ∃ i : Int, iv = .int .i64 i ∧ 0 ≤ i ∧ i ≤ 8 ∧ wr = w3) (fun iv _ => 8 - (RowKit.intOf iv).toNat)
    case atStart => exact ⟨0, rfl, by omega, by omega, rfl⟩
    case round =>
      obtain ⟨i, rfl, hi0, hi1, hwr⟩ := hrel
      obtain ⟨V, hV⟩ : ∃ V, wr = V := ⟨_, rfl⟩
      rw [hwr]
      clear hwr hV
      obtain rfl | rfl | rfl | rfl | rfl | rfl | rfl | rfl | rfl : i = 0 ∨ i = 1 ∨ i = 2 ∨ i = 3 ∨ i = 4 ∨ i = 5 ∨ i = 6 ∨ i = 7 ∨ i = 8 := by omega
      · have q0 : ∀ h, wrap64 (((({ data := #[34, 92, 47, 98, 102, 110, 114, 116] } : ByteArray)[0]'h).toNat : Nat) : Int) = 34 := by intro h; exact wrap64_at (n := 34) (by omega)
        by_cases kx : x2 = 34
        · subst kx
          have yb : w3.cell? ⟨B, 0, none⟩ = some (.int .u8 34) := HBX.out.cell 0
          obtain ⟨q12, hq12⟩ : ∃ qz, q1 + 1 = qz := ⟨_, rfl⟩
          have e1_12 : (q1 : Int) + 1 = (q12 : Int) := by omega
          have g12 : (q1 : Int) ≤ 1000000 := by have := HL.out; have := HQ3.out.le; omega
          have HP12 := hide hq12
          clear hq12
          have HQ12 := hide (HQ3.out.step (q := q12) (by have := HP12.out; omega) (by have := HP12.out; have := LT2.out; omega))
          have HRES : Hid (∀ X : World, X = (w3.setCell ⟨R, 1, none⟩ (.int .i64 (q12 : Int))) → EscR T w R ao cap p (.returned (.slice (some ⟨w3.heap.size, 0, none⟩) 1 1)) (X.alloc (.cells #[.int .u8 34] 5))) := fun X hX => ⟨_, [34], q12, d, 0, b2, rfl, sz_of (by rw [hX]; simp) (byts_lit X [34] (by simp) (0, 0)), by simp, by have := HP1.out; have := HP12.out; omega, by rw [hX]; exact HQ12.out.below (bel _ _)⟩
          go_wp2
          go_ret
          exact HRES.out _ rfl
        · have d1 : (x2 == 34) = false := by simpa using kx
          go_wp2
          go_roundw
          case rel => exact ⟨1, rfl, by omega, by omega, by first | rfl | trivial⟩
          case measure => simp [RowKit.intOf]
      · have q0 : ∀ h, wrap64 (((({ data := #[34, 92, 47, 98, 102, 110, 114, 116] } : ByteArray)[1]'h).toNat : Nat) : Int) = 92 := by intro h; exact wrap64_at (n := 92) (by omega)
        by_cases kx : x2 = 92
        · subst kx
          have yb : w3.cell? ⟨B, 1, none⟩ = some (.int .u8 92) := HBX.out.cell 1
          obtain ⟨q12, hq12⟩ : ∃ qz, q1 + 1 = qz := ⟨_, rfl⟩
          have e1_12 : (q1 : Int) + 1 = (q12 : Int) := by omega
          have g12 : (q1 : Int) ≤ 1000000 := by have := HL.out; have := HQ3.out.le; omega
          have HP12 := hide hq12
          clear hq12
          have HQ12 := hide (HQ3.out.step (q := q12) (by have := HP12.out; omega) (by have := HP12.out; have := LT2.out; omega))
          have HRES : Hid (∀ X : World, X = (w3.setCell ⟨R, 1, none⟩ (.int .i64 (q12 : Int))) → EscR T w R ao cap p (.returned (.slice (some ⟨w3.heap.size, 0, none⟩) 1 1)) (X.alloc (.cells #[.int .u8 92] 5))) := fun X hX => ⟨_, [92], q12, d, 0, b2, rfl, sz_of (by rw [hX]; simp) (byts_lit X [92] (by simp) (0, 0)), by simp, by have := HP1.out; have := HP12.out; omega, by rw [hX]; exact HQ12.out.below (bel _ _)⟩
          go_wp2
          go_ret
          exact HRES.out _ rfl
        · have d1 : (x2 == 92) = false := by simpa using kx
          go_wp2
          go_roundw
          case rel => exact ⟨2, rfl, by omega, by omega, by first | rfl | trivial⟩
          case measure => simp [RowKit.intOf]
      · have q0 : ∀ h, wrap64 (((({ data := #[34, 92, 47, 98, 102, 110, 114, 116] } : ByteArray)[2]'h).toNat : Nat) : Int) = 47 := by intro h; exact wrap64_at (n := 47) (by omega)
        by_cases kx : x2 = 47
        · subst kx
          have yb : w3.cell? ⟨B, 2, none⟩ = some (.int .u8 47) := HBX.out.cell 2
          obtain ⟨q12, hq12⟩ : ∃ qz, q1 + 1 = qz := ⟨_, rfl⟩
          have e1_12 : (q1 : Int) + 1 = (q12 : Int) := by omega
          have g12 : (q1 : Int) ≤ 1000000 := by have := HL.out; have := HQ3.out.le; omega
          have HP12 := hide hq12
          clear hq12
          have HQ12 := hide (HQ3.out.step (q := q12) (by have := HP12.out; omega) (by have := HP12.out; have := LT2.out; omega))
          have HRES : Hid (∀ X : World, X = (w3.setCell ⟨R, 1, none⟩ (.int .i64 (q12 : Int))) → EscR T w R ao cap p (.returned (.slice (some ⟨w3.heap.size, 0, none⟩) 1 1)) (X.alloc (.cells #[.int .u8 47] 5))) := fun X hX => ⟨_, [47], q12, d, 0, b2, rfl, sz_of (by rw [hX]; simp) (byts_lit X [47] (by simp) (0, 0)), by simp, by have := HP1.out; have := HP12.out; omega, by rw [hX]; exact HQ12.out.below (bel _ _)⟩
          go_wp2
          go_ret
          exact HRES.out _ rfl
        · have d1 : (x2 == 47) = false := by simpa using kx
          go_wp2
          go_roundw
          case rel => exact ⟨3, rfl, by omega, by omega, by first | rfl | trivial⟩
          case measure => simp [RowKit.intOf]
      · have q0 : ∀ h, wrap64 (((({ data := #[34, 92, 47, 98, 102, 110, 114, 116] } : ByteArray)[3]'h).toNat : Nat) : Int) = 98 := by intro h; exact wrap64_at (n := 98) (by omega)
        by_cases kx : x2 = 98
        · subst kx
          have yb : w3.cell? ⟨B, 3, none⟩ = some (.int .u8 8) := HBX.out.cell 3
          obtain ⟨q12, hq12⟩ : ∃ qz, q1 + 1 = qz := ⟨_, rfl⟩
          have e1_12 : (q1 : Int) + 1 = (q12 : Int) := by omega
          have g12 : (q1 : Int) ≤ 1000000 := by have := HL.out; have := HQ3.out.le; omega
          have HP12 := hide hq12
          clear hq12
          have HQ12 := hide (HQ3.out.step (q := q12) (by have := HP12.out; omega) (by have := HP12.out; have := LT2.out; omega))
          have HRES : Hid (∀ X : World, X = (w3.setCell ⟨R, 1, none⟩ (.int .i64 (q12 : Int))) → EscR T w R ao cap p (.returned (.slice (some ⟨w3.heap.size, 0, none⟩) 1 1)) (X.alloc (.cells #[.int .u8 8] 5))) := fun X hX => ⟨_, [8], q12, d, 0, b2, rfl, sz_of (by rw [hX]; simp) (byts_lit X [8] (by simp) (0, 0)), by simp, by have := HP1.out; have := HP12.out; omega, by rw [hX]; exact HQ12.out.below (bel _ _)⟩
          go_wp2
          go_ret
          exact HRES.out _ rfl
        · have d1 : (x2 == 98) = false := by simpa using kx
          go_wp2
          go_roundw
          case rel => exact ⟨4, rfl, by omega, by omega, by first | rfl | trivial⟩
          case measure => simp [RowKit.intOf]
      · have q0 : ∀ h, wrap64 (((({ data := #[34, 92, 47, 98, 102, 110, 114, 116] } : ByteArray)[4]'h).toNat : Nat) : Int) = 102 := by intro h; exact wrap64_at (n := 102) (by omega)
        by_cases kx : x2 = 102
        · subst kx
          have yb : w3.cell? ⟨B, 4, none⟩ = some (.int .u8 12) := HBX.out.cell 4
          obtain ⟨q12, hq12⟩ : ∃ qz, q1 + 1 = qz := ⟨_, rfl⟩
          have e1_12 : (q1 : Int) + 1 = (q12 : Int) := by omega
          have g12 : (q1 : Int) ≤ 1000000 := by have := HL.out; have := HQ3.out.le; omega
          have HP12 := hide hq12
          clear hq12
          have HQ12 := hide (HQ3.out.step (q := q12) (by have := HP12.out; omega) (by have := HP12.out; have := LT2.out; omega))
          have HRES : Hid (∀ X : World, X = (w3.setCell ⟨R, 1, none⟩ (.int .i64 (q12 : Int))) → EscR T w R ao cap p (.returned (.slice (some ⟨w3.heap.size, 0, none⟩) 1 1)) (X.alloc (.cells #[.int .u8 12] 5))) := fun X hX => ⟨_, [12], q12, d, 0, b2, rfl, sz_of (by rw [hX]; simp) (byts_lit X [12] (by simp) (0, 0)), by simp, by have := HP1.out; have := HP12.out; omega, by rw [hX]; exact HQ12.out.below (bel _ _)⟩
          go_wp2
          go_ret
          exact HRES.out _ rfl
        · have d1 : (x2 == 102) = false := by simpa using kx
          go_wp2
          go_roundw
          case rel => exact ⟨5, rfl, by omega, by omega, by first | rfl | trivial⟩
          case measure => simp [RowKit.intOf]
      · have q0 : ∀ h, wrap64 (((({ data := #[34, 92, 47, 98, 102, 110, 114, 116] } : ByteArray)[5]'h).toNat : Nat) : Int) = 110 := by intro h; exact wrap64_at (n := 110) (by omega)
        by_cases kx : x2 = 110
        · subst kx
          have yb : w3.cell? ⟨B, 5, none⟩ = some (.int .u8 10) := HBX.out.cell 5
          obtain ⟨q12, hq12⟩ : ∃ qz, q1 + 1 = qz := ⟨_, rfl⟩
          have e1_12 : (q1 : Int) + 1 = (q12 : Int) := by omega
          have g12 : (q1 : Int) ≤ 1000000 := by have := HL.out; have := HQ3.out.le; omega
          have HP12 := hide hq12
          clear hq12
          have HQ12 := hide (HQ3.out.step (q := q12) (by have := HP12.out; omega) (by have := HP12.out; have := LT2.out; omega))
          have HRES : Hid (∀ X : World, X = (w3.setCell ⟨R, 1, none⟩ (.int .i64 (q12 : Int))) → EscR T w R ao cap p (.returned (.slice (some ⟨w3.heap.size, 0, none⟩) 1 1)) (X.alloc (.cells #[.int .u8 10] 5))) := fun X hX => ⟨_, [10], q12, d, 0, b2, rfl, sz_of (by rw [hX]; simp) (byts_lit X [10] (by simp) (0, 0)), by simp, by have := HP1.out; have := HP12.out; omega, by rw [hX]; exact HQ12.out.below (bel _ _)⟩
          go_wp2
          go_ret
          exact HRES.out _ rfl
        · have d1 : (x2 == 110) = false := by simpa using kx
          go_wp2
          go_roundw
          case rel => exact ⟨6, rfl, by omega, by omega, by first | rfl | trivial⟩
          case measure => simp [RowKit.intOf]
      · have q0 : ∀ h, wrap64 (((({ data := #[34, 92, 47, 98, 102, 110, 114, 116] } : ByteArray)[6]'h).toNat : Nat) : Int) = 114 := by intro h; exact wrap64_at (n := 114) (by omega)
        by_cases kx : x2 = 114
        · subst kx
          have yb : w3.cell? ⟨B, 6, none⟩ = some (.int .u8 13) := HBX.out.cell 6
          obtain ⟨q12, hq12⟩ : ∃ qz, q1 + 1 = qz := ⟨_, rfl⟩
          have e1_12 : (q1 : Int) + 1 = (q12 : Int) := by omega
          have g12 : (q1 : Int) ≤ 1000000 := by have := HL.out; have := HQ3.out.le; omega
          have HP12 := hide hq12
          clear hq12
          have HQ12 := hide (HQ3.out.step (q := q12) (by have := HP12.out; omega) (by have := HP12.out; have := LT2.out; omega))
          have HRES : Hid (∀ X : World, X = (w3.setCell ⟨R, 1, none⟩ (.int .i64 (q12 : Int))) → EscR T w R ao cap p (.returned (.slice (some ⟨w3.heap.size, 0, none⟩) 1 1)) (X.alloc (.cells #[.int .u8 13] 5))) := fun X hX => ⟨_, [13], q12, d, 0, b2, rfl, sz_of (by rw [hX]; simp) (byts_lit X [13] (by simp) (0, 0)), by simp, by have := HP1.out; have := HP12.out; omega, by rw [hX]; exact HQ12.out.below (bel _ _)⟩
          go_wp2
          go_ret
          exact HRES.out _ rfl
        · have d1 : (x2 == 114) = false := by simpa using kx
          go_wp2
          go_roundw
          case rel => exact ⟨7, rfl, by omega, by omega, by first | rfl | trivial⟩
          case measure => simp [RowKit.intOf]
      · have q0 : ∀ h, wrap64 (((({ data := #[34, 92, 47, 98, 102, 110, 114, 116] } : ByteArray)[7]'h).toNat : Nat) : Int) = 116 := by intro h; exact wrap64_at (n := 116) (by omega)
        by_cases kx : x2 = 116
        · subst kx
          have yb : w3.cell? ⟨B, 7, none⟩ = some (.int .u8 9) := HBX.out.cell 7
          obtain ⟨q12, hq12⟩ : ∃ qz, q1 + 1 = qz := ⟨_, rfl⟩
          have e1_12 : (q1 : Int) + 1 = (q12 : Int) := by omega
          have g12 : (q1 : Int) ≤ 1000000 := by have := HL.out; have := HQ3.out.le; omega
          have HP12 := hide hq12
          clear hq12
          have HQ12 := hide (HQ3.out.step (q := q12) (by have := HP12.out; omega) (by have := HP12.out; have := LT2.out; omega))
          have HRES : Hid (∀ X : World, X = (w3.setCell ⟨R, 1, none⟩ (.int .i64 (q12 : Int))) → EscR T w R ao cap p (.returned (.slice (some ⟨w3.heap.size, 0, none⟩) 1 1)) (X.alloc (.cells #[.int .u8 9] 5))) := fun X hX => ⟨_, [9], q12, d, 0, b2, rfl, sz_of (by rw [hX]; simp) (byts_lit X [9] (by simp) (0, 0)), by simp, by have := HP1.out; have := HP12.out; omega, by rw [hX]; exact HQ12.out.below (bel _ _)⟩
          go_wp2
          go_ret
          exact HRES.out _ rfl
        · have d1 : (x2 == 116) = false := by simpa using kx
          go_wp2
          go_roundw
          case rel => exact ⟨8, rfl, by omega, by omega, by first | rfl | trivial⟩
          case measure => simp [RowKit.intOf]
      · skip
        by_cases ku : x2 = 117
        · subst ku
          obtain ⟨q13, hq13⟩ : ∃ qz, q1 + 1 = qz := ⟨_, rfl⟩
          have e1_13 : (q1 : Int) + 1 = (q13 : Int) := by omega
          have g13 : (q1 : Int) ≤ 1000000 := by have := HL.out; have := HQ3.out.le; omega
          have HP13 := hide hq13
          clear hq13
          have HQ13 := hide (HQ3.out.step (q := q13) (by have := HP13.out; omega) (by have := HP13.out; have := LT2.out; omega))
          go_wp2_with fail
          refine (hex_any w (w3.setCell ⟨R, 1, none⟩ (.int .i64 (q13 : Int))) R q13 d 0 b2 ao cap T HQ13.out).mono ?_
          rintro r W14 ⟨low, ⟨rfl, l1, l2⟩, q14, d14, e14, b14, hpq, hq, hee⟩
          have HQ14 := hide hq
          have HP14 := hide hpq
          have HE14 := hide hee
          clear hq hpq hee
          have c3_14 : W14.cell? ⟨R, 3, none⟩ = some (.int .i64 e14) := HQ14.out.rq.cell 3
          have lR_14 : R < W14.heap.size := HQ14.out.rq.lt
          by_cases hz : e14 = 0
          · subst hz
            by_cases k1 : low ≥ 55296
            · by_cases k2 : low ≤ 56319
              · skip
                go_wp2_with fail
                refine (second_any w W14 R q14 d14 0 b14 (p : Int) low ⟨k1, k2⟩ ao cap T HQ14.out).mono ?_
                rintro r W51 ⟨big, q51, d51, e51, b51, rfl, hpq, hq, hee, hbig⟩
                have HQ51 := hide hq
                have HP51 := hide hpq
                have HBG := hide hbig
                clear hq hpq hee hbig
                have c3_51 : W51.cell? ⟨R, 3, none⟩ = some (.int .i64 e51) := HQ51.out.rq.cell 3
                have lR_51 : R < W51.heap.size := HQ51.out.rq.lt
                by_cases hy : e51 = 0
                · subst hy
                  have hb9 := HBG.out rfl
                  obtain ⟨hb7, hb8⟩ := hb9
                  go_wp2_with fail
                  obtain ⟨nn, hnn⟩ : ∃ nn : Nat, (nn : Int) = big := ⟨big.toNat, by omega⟩
                  subst hnn
                  have hl : isLet (nn : Int) := ⟨by omega, by omega, by omega⟩
                  refine (rencode_calls W51 nn hl).mono ?_
                  rintro r W90 ⟨v, rfl, hby, hb⟩
                  have HR90 : Hid (EscR T w R ao cap p (.returned v) W90) := ⟨v, encL nn, q51, d51, 0, b51, rfl, hby, encL_len nn, by have := HP1.out; have := HP13.out; have := HP14.out; have := HP51.out; omega, HQ51.out.below hb⟩
                  clear hby hb hl
                  skip
                  go_wp2
                  go_ret
                  exact HR90.out
                · have dy : (e51 != 0) = true := by simpa using hy
                  clear hy
                  go_wp2
                  go_ret
                  exact ⟨_, [], q51, d51, e51, b51, rfl, byts_nil _, by simp, by have := HP1.out; have := HP13.out; have := HP14.out; have := HP51.out; omega, HQ51.out⟩
              · skip
                go_wp2_with fail
                obtain ⟨nn, hnn⟩ : ∃ nn : Nat, (nn : Int) = low := ⟨low.toNat, by omega⟩
                subst hnn
                by_cases hl : isLet (nn : Int)
                · skip
                  refine (rencode_calls W14 nn hl).mono ?_
                  rintro r W90 ⟨v, rfl, hby, hb⟩
                  have HR90 : Hid (EscR T w R ao cap p (.returned v) W90) := ⟨v, encL nn, q14, d14, 0, b14, rfl, hby, encL_len nn, by have := HP1.out; have := HP13.out; have := HP14.out; omega, HQ14.out.below hb⟩
                  clear hby hb hl
                  skip
                  go_wp2
                  go_ret
                  exact HR90.out
                · skip
                  refine (rencode_bad W14 nn hl).mono ?_
                  rintro r W91 ⟨rfl, hw⟩
                  rw [hw]
                  clear hw hl
                  go_wp2_with fail
                  refine (fail_q w W14 R q14 d14 0 b14 6 (p : Int) ao cap T HQ14.out (by omega)).mono ?_
                  rintro r W92 ⟨e92, b92, rfl, hq, he⟩
                  have HQ92 := hide hq
                  have HE92 := hide he
                  have dn92 : (e92 == 0) = false := by simpa using he
                  have dm92 : (e92 != 0) = true := by simpa using he
                  clear hq he
                  go_wp2
                  go_ret
                  exact ⟨_, [], q14, d14, e92, b92, rfl, byts_nil _, by simp, by have := HP1.out; have := HP13.out; have := HP14.out; omega, HQ92.out⟩
            · skip
              go_wp2_with fail
              obtain ⟨nn, hnn⟩ : ∃ nn : Nat, (nn : Int) = low := ⟨low.toNat, by omega⟩
              subst hnn
              by_cases hl : isLet (nn : Int)
              · skip
                refine (rencode_calls W14 nn hl).mono ?_
                rintro r W90 ⟨v, rfl, hby, hb⟩
                have HR90 : Hid (EscR T w R ao cap p (.returned v) W90) := ⟨v, encL nn, q14, d14, 0, b14, rfl, hby, encL_len nn, by have := HP1.out; have := HP13.out; have := HP14.out; omega, HQ14.out.below hb⟩
                clear hby hb hl
                skip
                go_wp2
                go_ret
                exact HR90.out
              · skip
                refine (rencode_bad W14 nn hl).mono ?_
                rintro r W91 ⟨rfl, hw⟩
                rw [hw]
                clear hw hl
                go_wp2_with fail
                refine (fail_q w W14 R q14 d14 0 b14 6 (p : Int) ao cap T HQ14.out (by omega)).mono ?_
                rintro r W92 ⟨e92, b92, rfl, hq, he⟩
                have HQ92 := hide hq
                have HE92 := hide he
                have dn92 : (e92 == 0) = false := by simpa using he
                have dm92 : (e92 != 0) = true := by simpa using he
                clear hq he
                go_wp2
                go_ret
                exact ⟨_, [], q14, d14, e92, b92, rfl, byts_nil _, by simp, by have := HP1.out; have := HP13.out; have := HP14.out; omega, HQ92.out⟩
          · have dy : (e14 == 0) = false := by simpa using hz
            have dx : (e14 != 0) = true := by simpa using hz
            clear hz
            go_wp2
            go_ret
            exact ⟨_, [], q14, d14, e14, b14, rfl, byts_nil _, by simp, by have := HP1.out; have := HP13.out; have := HP14.out; omega, HQ14.out⟩
        · have d1 : (x2 != 117) = true := by simpa using ku
          go_wp2_with fail
          refine (fail_q w w3 R q1 d 0 b2 6 (q1 : Int) ao cap T HQ3.out (by omega)).mono ?_
          rintro r W61 ⟨e61, b61, rfl, hq, he⟩
          have HQ61 := hide hq
          have HE61 := hide he
          have dn61 : (e61 == 0) = false := by simpa using he
          have dm61 : (e61 != 0) = true := by simpa using he
          clear hq he
          go_wp2
          go_ret
          exact ⟨_, [], q1, d, e61, b61, rfl, byts_nil _, by simp, by have := HP1.out; omega, HQ61.out⟩
  · have dz : (e2 != 0) = true := by simpa using he
    clear he HX2
    go_wp2
    go_ret
    exact ⟨_, [], q1, d, e2, b2, rfl, byts_nil _, by simp, by have := HP1.out; omega, HQ2.out⟩

end Go.Proofs.YtbdpmpepmjpadaaGreatDoor
