/- Texts of json and rpc, part 4: QRd9, QRd10, QRd11, QRd12, QRd13, QRd14, QRd15, USmall, UEnd, ULines, QULets, QURVal, RAny0, JRow, JRowC, RRowB. -/
import Derived.Test.YtbdpmpepmjpadaaGreatDoorLnP3
import Derived.Test.YtbdpmpepmjpadaaGreatDoorUUnits
import Derived.Deep.AppendLies
import Derived.Laws.OwnMore
import Derived.Deep.DeepMust
import Derived.BigQuiet
import Derived.Deep.QuietTactic
import Derived.OwnWalk
import Derived.Test.YtbdpmpepmjpadaaGreatDoorQUOne
import Derived.Test.YtbdpmpepmjpadaaGreatDoorLnP2
import Derived.Test.YtbdpmpepmjpadaaGreatDoorLnP1
import Derived.Test.YtbdpmpepmjpadaaGreatDoorRows
import Derived.ProofKit
import Derived.OpenShut
import Derived.ChangeOld
import Derived.SizedLaws
import Derived.HandedShaped
import Derived.Lay
import Derived.MakeChecks
import Derived.Lib.LaidU8
import Derived.Shelf.Vars
import Derived.Deep.Strs
import Derived.Lib.LaidTab
import Derived.Stop.LaidErr
import Derived.Deep.Slices
namespace Go.Proofs.YtbdpmpepmjpadaaGreatDoor
set_option linter.unusedVariables false
set_option linter.unusedSimpArgs false
set_option maxRecDepth 100000
open Go Go.RowKit Go.Shelf Go.Lib

/-- Is it unbroken yet? -/
def rdE (W : World) (R : Nat) : Nat := match W.cell? ⟨R, 3, none⟩ with
  | some (.int _ i) => if i = 0 then 1 else 0
  | _ => 0
theorem RQ.err {w : World} {R p : Nat} {sv : Value} {d e b : Int} (h : RQ w R sv p d e b) : rdE w R = if e = 0 then 1 else 0 := by
  unfold rdE
  have c1 : w.cell? ⟨R, 3, none⟩ = some (.int .i64 e) := BoxC.cell h 3
  rw [c1]
/-- A text under way. -/
def TxtR (T : List Nat) (W : World) (R : Nat) (ao : Option Addr) (cap p : Nat) (e : Int) (ov : Value) (wr : World) : Prop :=
  ∃ (S : List Nat) (q : Nat) (d' e' b' : Int), OwnB W.heap.size wr ov S ∧ (∀ x ∈ S, x < 256) ∧ S.length ≤ 4 * q ∧ p ≤ q ∧ (e ≠ 0 → e' ≠ 0) ∧ QS T W wr R ao cap q d' e' b'
theorem byts_256 {W : World} {v : Value} {S : List Nat} (h : Byts W v S) : ∀ x ∈ S, x < 256 := by
  obtain ⟨_, _, _, h, _⟩ := h
  exact h
theorem own_off {n₀ R : Nat} {w : World} {v : Value} {S : List Nat} (h : OwnB n₀ w v S) (hR : R < n₀) : v.ownBlock ≠ some R := fun e => by
  have := (h.lt R e).1
  omega
/-- Behind an append to one's own row. -/
theorem QS.grown {T : List Nat} {W w w5 : World} {R : Nat} {ao : Option Addr} {cap q : Nat} {d e b : Int} {ov : Value} {S : List Nat} (h0 : R < W.heap.size) (hTx : TxJ W R ao cap T) (h : QS T W w R ao cap q d e b) (ho : OwnB W.heap.size w ov S) (hg : w.grownBy w5 ov.ownBlock) : QS T W w5 R ao cap q d e b := by
  have hrow : RowTo W none ov.ownBlock := by
    cases hob : ov.ownBlock with
    | none => exact .inl rfl
    | some j => exact .inr (.inr ⟨j, rfl, (ho.lt j hob).1⟩)
  have hf := h.fr.trans (Fr.grown hg) hrow
  exact ⟨BoxC.kept h.rq hg (fun q => own_off ho h0 q.symm), hTx.fr hf, hf, h.le, h.db⟩

set_option maxHeartbeats 16000000 in
theorem text_any (w W : World) (R p : Nat) (d e b : Int) (ao : Option Addr) (cap : Nat) (T : List Nat) (h : QS T w W R ao cap p d e b) :
    Calls Tryz.prog 59 #[.pointer (some ⟨R, 0, none⟩)] W fun r w' => ∃ s : ByteArray, (r = .returned (.string s) ∧ s.size ≤ 4 * T.length) ∧ QM T w R ao cap p e w' := by
  have HL := hide h.tx.len
  have HQE := hide h
  have HTX := hide h.tx
  have HRW := hide h.rq.lt
  have HQ0 := hide (h.self (Below.refl _ _))
  clear h
  have HFIN : Hid (∀ (s : ByteArray) (wr : World) (q : Nat) (d' e' b' : Int), s.size ≤ 4 * T.length → p ≤ q → (e ≠ 0 → e' ≠ 0) → QS T W wr R ao cap q d' e' b' → ∃ s' : ByteArray, (Ending.returned (.string s) = .returned (.string s') ∧ s'.size ≤ 4 * T.length) ∧ QM T w R ao cap p e wr) := fun s wr q d' e' b' h1 h2 h3 h4 => ⟨s, ⟨rfl, h1⟩, q, d', e', b', h2, HQE.out.go h4.rq h4.fr h4.le h4.db, h3⟩
  go_enter Tryz.func59, Tryz.ntmps59
  go_wp2_with fail
  refine (must_any W W R p d e b 34 ao cap T HQ0.out).mono ?_
  rintro r W1 ⟨rfl, q1, d1, e1, b1, hpq, hq, hee⟩
  have HQ1 := hide hq
  have HP1 := hide hpq
  have HE1 := hide hee
  clear hq hpq hee
  have HI : Hid (TxtR T W R ao cap p e (.slice none 0 0) W1) := ⟨[], q1, d1, e1, b1, World.ownsRow_nil _ _ _ _, by simp, by simp, HP1.out, HE1.out, HQ1.out⟩
  clear HQ1 HP1 HE1
  go_wp2
  go_loopw [3] (fun ov wr => TxtR T W R ao cap p e ov wr) (fun _ wr => 2 * (T.length - rdAt wr R) + rdE wr R)
  case atStart => exact HI.out
  case round =>
    obtain ⟨S, q, d0, e0, b0, hown, hsm, hsl, hpq, hee, hs⟩ := hrel
    obtain ⟨va, vn, vc, rfl⟩ := hown.slice
    have HO := hide hown
    have HSM := hide hsm
    have HSL := hide hsl
    have HPQ := hide hpq
    have HEE := hide hee
    have HS := hide hs
    have HAT := hide hs.rq.at
    have HER := hide hs.rq.err
    clear HI hown hsm hsl hpq hee hs
    have c3_20 : wr.cell? ⟨R, 3, none⟩ = some (.int .i64 e0) := HS.out.rq.cell 3
    have lR_20 : R < wr.heap.size := HS.out.rq.lt
    by_cases hz : e0 = 0
    · subst hz
      have HER1 : Hid (rdE wr R = 1) := hide (by have h := HER.out; simpa using h)
      clear HER
      have E0 : Hid (e = 0) := hide (Decidable.byContradiction fun h => HEE.out h rfl)
      go_wp2_with fail
      refine (peek_q wr wr R q d0 0 b0 ao cap T (HS.out.self (Below.refl _ _))).mono ?_
      rintro r W21 ⟨x21, e21, b21, rfl, hq, h1_21, h2_21, hx⟩
      have HQ21 := hide (HS.out.go hq.rq hq.fr hq.le hq.db)
      have HO21 : Hid (OwnB W.heap.size W21 (.slice va vn vc) S) := hide (HO.out.fr hq.fr (own_off HO.out HRW.out) (by cases (Value.slice va vn vc).ownBlock <;> simp))
      have HX21 := hide hx
      clear hq hx
      have c1_21 : W21.cell? ⟨R, 1, none⟩ = some (.int .i64 (q : Int)) := HQ21.out.rq.cell 1
      have c3_21 : W21.cell? ⟨R, 3, none⟩ = some (.int .i64 e21) := HQ21.out.rq.cell 3
      have f1_21 : W21.frozen? ⟨R, 1, none⟩ = false := HQ21.out.rq.frozen 1
      have lR_21 : R < W21.heap.size := HQ21.out.rq.lt
      skip
      by_cases he : e21 = 0
      · subst he
        have LT : Hid (q < T.length) := by
          rcases HX21.out with h | h
          · exact absurd rfl h.2
          · exact hide h.2.2.1
        have X0 : 0 ≤ x21 := by
          rcases HX21.out with h | h
          · exact absurd rfl h.2
          · exact h.2.2.2
        clear HX21
        by_cases k1 : x21 = 34
        · subst k1
          obtain ⟨ao2, cap2, e2, hby, _⟩ := own_byts HSM.out HO21.out
          cases e2
          obtain ⟨q22, hq22⟩ : ∃ qz, q + 1 = qz := ⟨_, rfl⟩
          have e1_22 : (q : Int) + 1 = (q22 : Int) := by omega
          have g22 : (q : Int) ≤ 1000000 := by have := HL.out; have := HQ21.out.le; omega
          have HP22 := hide hq22
          clear hq22
          have HQ22 := hide (HQ21.out.step (q := q22) (by have := HP22.out; omega) (by have := HP22.out; have := LT.out; omega))
          skip
          have hO2 : OwnB W.heap.size (W21.setCell ⟨R, 1, none⟩ (.int .i64 (q22 : Int))) (.slice va S.length vc) S := HO21.out.fr ((Fr.refl R none W21).set 1 _) (own_off HO21.out HRW.out) (by cases (Value.slice va S.length vc).ownBlock <;> simp)
          clear hby
          obtain ⟨ao3, cap3, e3, hby, _⟩ := own_byts HSM.out hO2
          cases e3
          have hcv := conv_byts hby
          clear hby hO2
          go_wp2
          go_ret
          exact HFIN.out _ _ q22 _ _ _ (by have := HSL.out; have := LT.out; simp only [strOf, ByteArray.size, List.size_toArray, List.length_map]; omega) (by have := HPQ.out; have := HP22.out; omega) (fun h => absurd E0.out h) HQ22.out
        · have d34 : (x21 == 34) = false := by simpa using k1
          by_cases k2 : x21 < 32
          · skip
            go_wp2_with fail
            refine (fail_q W21 W21 R q d0 0 b21 6 (q : Int) ao cap T (HQ21.out.self (Below.refl _ _)) (by omega)).mono ?_
            rintro r W22 ⟨e22, b22, rfl, hq, he⟩
            have HREL : Hid (TxtR T W R ao cap p e (.slice va vn vc) W22) := ⟨S, q, d0, e22, b22, HO21.out.fr hq.fr (own_off HO21.out HRW.out) (by cases (Value.slice va vn vc).ownBlock <;> simp), HSM.out, HSL.out, HPQ.out, fun _ => he, HQ21.out.go hq.rq hq.fr hq.le hq.db⟩
            have HM : Hid (rdAt W22 R = q ∧ rdE W22 R = 0) := hide ⟨hq.rq.at, by rw [hq.rq.err, if_neg he]⟩
            clear hq he
            go_wp2
            go_roundw
            case rel => exact HREL.out
            case measure => rw [HM.out.1, HM.out.2, HAT.out, HER1.out]; omega
          · by_cases k3 : x21 = 92
            · subst k3
              go_wp2_with fail
              refine (escape_any W21 W21 R q d0 b21 ao cap T (HQ21.out.self (Below.refl _ _)) LT.out).mono ?_
              rintro r w5 ⟨xv, xs, q5, d5, e5, b5, rfl, hby, hxl, hq5, hq⟩
              have HO5 : Hid (OwnB W.heap.size w5 (.slice va vn vc) S) := hide (HO21.out.fr hq.fr (own_off HO21.out HRW.out) (by cases (Value.slice va vn vc).ownBlock <;> simp))
              have HQ5 := hide (HQ21.out.go hq.rq hq.fr hq.le hq.db)
              have HBY := hide hby
              have HXL := hide hxl
              have HLT5 := hide hq5
              have HSZ5 : Hid (W.heap.size ≤ w5.heap.size) := hide HQ5.out.fr.size
              clear hby hxl hq5 hq
              go_wp2_with (at_builtin; go_must (refine wpList_appA _ rfl (.tmp 40) (.tmp 42) rfl W.heap.size (.slice va vn vc) S rfl HO5.out xv xs rfl HBY.out (by have := HSL.out; have := HL.out; have := LT.out; have := HXL.out; omega) (by have := HSZ5.out; omega) ?_; intro v' w6 hown' hgrow hrow); have HOW := hide hown'; obtain ⟨av, LL, cv, hv'⟩ := hown'.slice; subst hv'; have HQ6 := hide (QS.grown HRW.out HTX.out HQ5.out HO5.out hgrow); have c16 : w6.cell? ⟨R, 1, none⟩ = some (.int .i64 (q5 : Int)) := HQ6.out.rq.cell 1; have f16 : w6.frozen? ⟨R, 1, none⟩ = false := HQ6.out.rq.frozen 1; have l6 : R < w6.heap.size := HQ6.out.rq.lt; clear hown' hgrow hrow)
              go_roundw
              case rel => exact ⟨_, q5, _, _, _, HOW.out, fun x hx => by (rcases List.mem_append.1 hx with h | h; exact HSM.out x h; exact byts_256 HBY.out x h), by have := HSL.out; have := HXL.out; have := HLT5.out; rw [List.length_append]; omega, by have := HPQ.out; have := HLT5.out; omega, fun h => absurd E0.out h, HQ6.out⟩
              case measure => rw [HQ6.out.rq.at, HQ6.out.rq.err, HAT.out, HER1.out]; have := HLT5.out; have := LT.out; split <;> omega
            · have d92 : (x21 == 92) = false := by simpa using k3
              obtain ⟨c, rfl⟩ : ∃ c : Nat, x21 = (c : Int) := ⟨x21.toNat, by omega⟩
              have c256 : c < 256 := by omega
              have hwu : IntKind.u8.wrap (c : Int) = (c : Int) := by rw [wrapu8]; omega
              have hmod : (c : Int) % 256 = (c : Int) := by omega
              have hb5 := bel W21 (.cells #[.int .u8 (c : Int)] 5)
              have HO5 := hide (HO21.out.below hb5)
              have HQ5 := hide (HQ21.out.below hb5)
              have HBY : Hid (Byts (W21.alloc (.cells #[.int .u8 (c : Int)] 5)) (.slice (some ⟨W21.heap.size, 0, none⟩) 1 1) [c]) := byts_lit W21 [c] (by simpa using c256) (0, 0)
              have HXL : Hid ([c].length ≤ 4) := hide (by simp)
              have HSZ5 : Hid (W.heap.size ≤ (W21.alloc (.cells #[.int .u8 (c : Int)] 5)).heap.size) := hide HQ5.out.fr.size
              clear hb5
              obtain ⟨q5, hq5⟩ : ∃ q5, q + 1 = q5 := ⟨_, rfl⟩
              have e15 : (q : Int) + 1 = (q5 : Int) := by omega
              have g15 : (q : Int) ≤ 1000000 := by have := HL.out; have := LT.out; omega
              have HLT5 := hide hq5
              clear hq5
              go_wp2_with (at_builtin; go_must (refine wpList_appA _ rfl (.tmp 44) (.tmp 47) rfl W.heap.size (.slice va vn vc) S rfl HO5.out _ [c] rfl HBY.out (by have := HSL.out; have := HL.out; have := LT.out; have := HXL.out; omega) (by have := HSZ5.out; omega) ?_; intro v' w6 hown' hgrow hrow); have HOW := hide hown'; obtain ⟨av, LL, cv, hv'⟩ := hown'.slice; subst hv'; have HQ6 := hide (QS.grown HRW.out HTX.out HQ5.out HO5.out hgrow); have c16 : w6.cell? ⟨R, 1, none⟩ = some (.int .i64 (q : Int)) := HQ6.out.rq.cell 1; have f16 : w6.frozen? ⟨R, 1, none⟩ = false := HQ6.out.rq.frozen 1; have l6 : R < w6.heap.size := HQ6.out.rq.lt; clear hown' hgrow hrow)
              have HQ7 := hide (HQ6.out.step (q := q5) (by have := HLT5.out; omega) (by have := HLT5.out; have := LT.out; omega))
              go_roundw
              case rel => exact ⟨S ++ [c], q5, _, _, _, HOW.out.fr ((Fr.refl R none w6).set 1 _) (own_off HOW.out HRW.out) (by cases (Value.slice av LL cv).ownBlock <;> simp), fun x hx => by (rcases List.mem_append.1 hx with h | h; exact HSM.out x h; exact byts_256 HBY.out x h), by have := HSL.out; have := HLT5.out; rw [List.length_append, List.length_singleton]; omega, by have := HPQ.out; have := HLT5.out; omega, fun h => absurd E0.out h, HQ7.out⟩
              case measure => rw [HQ7.out.rq.at, HQ7.out.rq.err, HAT.out, HER1.out]; have := HLT5.out; have := LT.out; split <;> omega
      · have dm : (e21 != 0) = true := by simpa using he
        have HZ := hide he
        clear he HX21
        go_wp2
        go_ret
        exact HFIN.out _ _ q _ _ _ (Nat.zero_le _) HPQ.out (fun _ => HZ.out) HQ21.out
    · have dz : (e0 == 0) = false := by simpa using hz
      have HZ := hide hz
      clear hz
      go_wp2
      go_ret
      exact HFIN.out _ _ q _ _ _ (Nat.zero_le _) HPQ.out (fun _ => HZ.out) HS.out

end Go.Proofs.YtbdpmpepmjpadaaGreatDoor

namespace Go.Proofs.YtbdpmpepmjpadaaGreatDoor
set_option linter.unusedVariables false
set_option linter.unusedSimpArgs false
set_option maxRecDepth 100000
open Go Go.RowKit Go.Shelf Go.Lib

/-- Appending a value to one's own, where nothing draws. -/
theorem wpList_appQ (w : World) {ops : Array Oper} {rest : List Oper} {o : Oper} {a : Act} {Q : Exit → Act → World → Prop} (hg : o.guard = none) (s x : Operand)
    (ho : o.op = .call { callee := .builtin .append, args := #[s, x], argTypes := #[34, 34] })
    (n₀ : Nat) (v : Value) (M : List JC) (hs : a.eval s = v) (hown : OwnQ n₀ w v M) (b c : Nat) (y : JC) (hx : a.eval x = .slice (some ⟨b, 0, none⟩) 1 c) (hl : BoxC w b 36 (vcell y).toArray) (h1 : y.2.2.1.oneCell' = true ∧ y.2.2.2.oneCell' = true) (hsum : M.length ≤ 1000000000) (hbase : n₀ ≤ w.heap.size)
    (h : ∀ v' w', OwnQ n₀ w' v' (M ++ [y]) → w.grownBy w' v.ownBlock → (v'.ownBlock = v.ownBlock ∨ v'.ownBlock = some w.heap.size) → wpList Tryz.prog ops Q rest (a.put o.dst v') w') : wpList Tryz.prog ops Q (o :: rest) a w :=
  wpList_plain hg fun K hK => wp_appQ w s x ho n₀ v M hs hown b c y hx hl h1 hsum hbase fun v' w' h1 h2 h3 => hK _ _ (h v' w' h1 h2 h3)
theorem tin_form {W : World} {S : Nat → Prop} {x : JC} {Tr : JT} (h : TIn W S x Tr) : ∃ k s a1 n1 c1 a2 n2 c2, x = (k, s, .slice a1 n1 c1, .slice a2 n2 c2) := by
  cases h with
  | mk k s kv la lc K L xs hK hc hsl ht =>
    obtain ⟨ao, cap, rfl, _⟩ := hK
    exact ⟨k, s, _, _, _, _, _, _, rfl⟩
/-- The trees of a row of values, in blocks of which S holds. -/
def TreesQ (T : List Nat) (S : Nat → Prop) (wr : World) (M : List JC) (Ts : List JT) : Prop :=
  Ts.length = M.length ∧ ∀ (i : Nat) (x : JC), M[i]? = some x → ∃ Tr, Ts[i]? = some Tr ∧ TIn wr S x Tr ∧ SzT T.length Tr
theorem TreesQ.keep {T : List Nat} {S S' : Nat → Prop} {wr wr' : World} {M : List JC} {Ts : List JT} (h : TreesQ T S wr M Ts) (hb : ∀ b, S b → b < wr.heap.size → S' b ∧ wr'.heap[b]? = wr.heap[b]?) : TreesQ T S' wr' M Ts :=
  ⟨h.1, fun i x hx => by
    obtain ⟨Tr, h1, h2, h3⟩ := h.2 i x hx
    exact ⟨Tr, h1, h2.keep hb, h3⟩⟩
theorem TreesQ.snoc {T : List Nat} {S : Nat → Prop} {wr : World} {M : List JC} {Ts : List JT} {x : JC} {Tr : JT} (h : TreesQ T S wr M Ts) (ht : TIn wr S x Tr) (hz : SzT T.length Tr) : TreesQ T S wr (M ++ [x]) (Ts ++ [Tr]) := by
  refine ⟨by simp [h.1], fun i y hy => ?_⟩
  by_cases hi : i < M.length
  · rw [List.getElem?_append_left hi] at hy
    obtain ⟨Tr', h1, h2⟩ := h.2 i y hy
    exact ⟨Tr', by rw [List.getElem?_append_left (by rw [h.1]; exact hi)]; exact h1, h2⟩
  · have hl : i < (M ++ [x]).length := (List.getElem?_eq_some_iff.1 hy).1
    have : i = M.length := by simp at hl; omega
    subst this
    simp at hy
    subst hy
    exact ⟨Tr, by rw [← h.1]; simp, ht, hz⟩
theorem OwnQ.fr {n₀ R : Nat} {w w' : World} {v : Value} {M : List JC} (h : OwnQ n₀ w v M) (k : Fr R none w w') (hR : R < n₀) : OwnQ n₀ w' v M := h.keep fun j e => by
  have := h.lt j e
  exact k.block this.2 (by omega) (by simp)
/-- A list that grows: its value's tree. -/
theorem tin_list {W : World} {n n₀ : Nat} {T : List Nat} {lv : Value} {M : List JC} {Ts : List JT} (k : Int) (s : ByteArray) (kv : Value) (K : List ByteArray) (hK : StrsS W (fun b => n ≤ b) kv K) (ho : OwnQ n₀ W lv M) (hn : n ≤ n₀) (ht : TreesQ T (fun b => n ≤ b) W M Ts) : ∃ a c, lv = .slice a M.length c ∧ TIn W (fun b => n ≤ b) (k, s, kv, lv) (.mk k s K Ts) := by
  obtain ⟨a, c, rfl, hle⟩ := ho.len
  refine ⟨a, c, rfl, ?_⟩
  have key : TIn W (fun b => n ≤ b) (k, s, kv, .slice a Ts.length c) (.mk k s K Ts) := by
    refine .mk k s kv a c K Ts (fun i => (M[i]?).getD (0, ⟨#[]⟩, .slice none 0 0, .slice none 0 0)) hK (fun i hi => ?_) (fun i hi => ?_) (fun i hi => ?_)
    · obtain ⟨y, hm⟩ : ∃ y, M[i]? = some y := ⟨_, List.getElem?_eq_getElem (by rw [← ht.1]; exact hi)⟩
      obtain ⟨g, e, hc⟩ := ho.cell hm
      refine ⟨g, 0, e, ?_, fun r hr => ?_⟩
      · have := ho.lt g (by rw [e]; rfl)
        show n ≤ g
        omega
      · rw [Nat.zero_add, hc r hr, hm]
        rfl
    · obtain ⟨y, hm⟩ : ∃ y, M[i]? = some y := ⟨_, List.getElem?_eq_getElem (by rw [← ht.1]; exact hi)⟩
      obtain ⟨Tr, _, h2, _⟩ := ht.2 i _ hm
      obtain ⟨k, s, a1, n1, c1, a2, n2, c2, e⟩ := tin_form h2
      rw [hm, Option.getD_some, e]
      exact ⟨⟨_, _, _, rfl⟩, ⟨_, _, _, rfl⟩⟩
    · obtain ⟨y, hm⟩ : ∃ y, M[i]? = some y := ⟨_, List.getElem?_eq_getElem (by rw [← ht.1]; exact hi)⟩
      obtain ⟨Tr, h1, h2, _⟩ := ht.2 i _ hm
      rw [hm, Option.getD_some]
      have e : Ts[i] = Tr := by
        have := List.getElem?_eq_getElem hi
        rw [h1] at this
        exact (Option.some.inj this).symm
      rw [e]
      exact h2
  rw [ht.1] at key
  exact key
theorem sz_list {T : List Nat} {S : Nat → Prop} {W : World} {M : List JC} {Ts : List JT} (k : Int) (K : List ByteArray) (hK : K.length ≤ T.length) (hM : M.length ≤ T.length) (ht : TreesQ T S W M Ts) : SzT T.length (.mk k ⟨#[]⟩ K Ts) := by
  refine .mk k _ K Ts hK (by rw [ht.1]; exact hM) (Nat.zero_le _) (fun i hi => ?_)
  obtain ⟨y, hm⟩ : ∃ y, M[i]? = some y := ⟨_, List.getElem?_eq_getElem (by rw [← ht.1]; exact hi)⟩
  obtain ⟨Tr, h1, _, h3⟩ := ht.2 i _ hm
  have e : Ts[i] = Tr := by
    have := List.getElem?_eq_getElem hi
    rw [h1] at this
    exact (Option.some.inj this).symm
  rw [e]
  exact h3

/-- Behind a store into a box of one's own. -/
theorem QS.put {T : List Nat} {W w : World} {R B : Nat} {ao : Option Addr} {cap q : Nat} {d e b : Int} (hTx : TxJ W R ao cap T) (h : QS T W w R ao cap q d e b) (hR : R ≠ B) (hB : W.heap.size ≤ B) (i : Nat) (x : Value) : QS T W (w.setCell ⟨B, i, none⟩ x) R ao cap q d e b := by
  have hf := h.fr.setNew hB i x
  exact ⟨BoxC.other h.rq hR i x, hTx.fr hf, hf, h.le, h.db⟩
theorem QS.grownQ {T : List Nat} {W w w5 : World} {R n₀ : Nat} {ao : Option Addr} {cap q : Nat} {d e b : Int} {ov : Value} {M : List JC} (h0 : R < W.heap.size) (hn : W.heap.size ≤ n₀) (hTx : TxJ W R ao cap T) (h : QS T W w R ao cap q d e b) (ho : OwnQ n₀ w ov M) (hg : w.grownBy w5 ov.ownBlock) : QS T W w5 R ao cap q d e b := by
  have hrow : RowTo W none ov.ownBlock := by
    cases hob : ov.ownBlock with
    | none => exact .inl rfl
    | some j => exact .inr (.inr ⟨j, rfl, Nat.le_trans hn (ho.lt j hob).1⟩)
  have hf := h.fr.trans (Fr.grown hg) hrow
  exact ⟨BoxC.kept h.rq hg (fun q => ho.off (show R < n₀ by omega) q.symm), hTx.fr hf, hf, h.le, h.db⟩
def bN : Value → Nat
  | .bool true => 1
  | _ => 0
/-- An array under way: A its result's box, A + 1 its own. -/
structure ArrQ (T : List Nat) (W : World) (R : Nat) (ao : Option Addr) (cap p : Nat) (m : Bool) (M : List JC) (Ts : List JT) (lv : Value) (q : Nat) (d e b : Int) (wr : World) : Prop where
  res : BoxC wr W.heap.size 36 #[.int .i64 0, .string ⟨#[]⟩, .slice none 0 0, .slice none 0 0]
  box : BoxC wr (W.heap.size + 1) 36 #[.int .i64 5, .string ⟨#[]⟩, .slice none 0 0, lv]
  own : OwnQ (W.heap.size + 2) wr lv M
  trees : TreesQ T (fun k => W.heap.size + 2 ≤ k ∧ lv.ownBlock ≠ some k) wr M Ts
  len : M.length ≤ q
  more : m = true → M.length < q
  far : p < q
  qs : QS T W wr R ao cap q d e b
  big : W.heap.size + 2 ≤ wr.heap.size

end Go.Proofs.YtbdpmpepmjpadaaGreatDoor

namespace Go.Proofs.YtbdpmpepmjpadaaGreatDoor
set_option linter.unusedVariables false
set_option linter.unusedSimpArgs false
set_option maxRecDepth 100000
open Go Go.RowKit Go.Shelf Go.Lib

theorem heap4 {w : World} {A b : Nat} (h : b ≠ A) (x y z u : Value) : ((((w.setCell ⟨A, 0, none⟩ x).setCell ⟨A, 1, none⟩ y).setCell ⟨A, 2, none⟩ z).setCell ⟨A, 3, none⟩ u).heap[b]? = w.heap[b]? :=
  (heap_setCell_other _ ⟨A, 3, none⟩ b u h).trans ((heap_setCell_other _ ⟨A, 2, none⟩ b z h).trans ((heap_setCell_other _ ⟨A, 1, none⟩ b y h).trans (heap_setCell_other _ ⟨A, 0, none⟩ b x h)))
/-- Behind a value that was read: all that the array keeps. -/
theorem ArrQ.read {T : List Nat} {W wr w4 : World} {R : Nat} {ao : Option Addr} {cap p q q4 : Nat} {m : Bool} {M : List JC} {Ts : List JT} {lv : Value} {d e b d4 e4 b4 : Int} (h : ArrQ T W R ao cap p m M Ts lv q d e b wr) (hR : R < W.heap.size) (hs : QS T wr w4 R ao cap q4 d4 e4 b4) (hq : q ≤ q4) (m' : Bool) (hm : m' = true → M.length < q4) : ArrQ T W R ao cap p m' M Ts lv q4 d4 e4 b4 w4 :=
  ⟨h.res.fr hs.fr (by omega) (by simp), h.box.fr hs.fr (by omega) (by simp), h.own.fr hs.fr (by omega), h.trees.keep fun b hb hlt => ⟨hb, hs.fr.block hlt (by have := hb.1; omega) (by simp)⟩, Nat.le_trans h.len hq, hm, Nat.lt_of_lt_of_le h.far hq, h.qs.go hs.rq hs.fr hs.le hs.db, Nat.le_trans h.big hs.fr.size⟩
theorem ArrQ.below {T : List Nat} {W wr w4 : World} {R : Nat} {ao : Option Addr} {cap p q : Nat} {m : Bool} {M : List JC} {Ts : List JT} {lv : Value} {d e b : Int} (h : ArrQ T W R ao cap p m M Ts lv q d e b wr) (hR : R < W.heap.size) (hb : Below wr.heap.size wr w4) : ArrQ T W R ao cap p m M Ts lv q d e b w4 :=
  h.read hR ⟨h.qs.rq.below hb, h.qs.tx.fr (Fr.of hb), Fr.of hb, h.qs.le, h.qs.db⟩ (Nat.le_refl _) m h.more
/-- Behind an append, and the store of what it left. -/
theorem ArrQ.app {T : List Nat} {W w6 w7 : World} {R : Nat} {ao : Option Addr} {cap p q : Nat} {m : Bool} {M : List JC} {Ts : List JT} {lv v' : Value} {x : JC} {Tr : JT} {d e b : Int} (h : ArrQ T W R ao cap p m M Ts lv q d e b w6) (hR : R < W.heap.size) (hTx : TxJ W R ao cap T) (ht : TIn w6 (fun k => W.heap.size + 2 ≤ k ∧ lv.ownBlock ≠ some k) x Tr) (hz : SzT T.length Tr) (hml : M.length < q)
    (ho : OwnQ (W.heap.size + 2) w7 v' (M ++ [x])) (hg : w6.grownBy w7 lv.ownBlock) (hrow : v'.ownBlock = lv.ownBlock ∨ v'.ownBlock = some w6.heap.size) : ArrQ T W R ao cap p false (M ++ [x]) (Ts ++ [Tr]) v' q d e b (w7.setCell ⟨W.heap.size + 1, 3, none⟩ v') := by
  have hb7 := BoxC.kept h.box hg (fun e => (h.own.off (show W.heap.size + 1 < W.heap.size + 2 by omega)) e.symm)
  have hr7 := BoxC.kept h.res hg (fun e => (h.own.off (show W.heap.size < W.heap.size + 2 by omega)) e.symm)
  have hq7 := QS.grownQ hR (by omega) hTx h.qs h.own hg
  have ht6 := h.trees.snoc ht hz
  have ht7 : TreesQ T (fun k => W.heap.size + 2 ≤ k ∧ v'.ownBlock ≠ some k) w7 (M ++ [x]) (Ts ++ [Tr]) := ht6.keep fun b hb hlt => by
    refine ⟨⟨hb.1, fun e => ?_⟩, hg.block b hlt (fun e => hb.2 e.symm)⟩
    rcases hrow with h | h
    · exact hb.2 (h ▸ e)
    · rw [h] at e
      cases e
      omega
  refine ⟨hr7.other (by omega) 3 v', hb7.set 3 v', ho.set (ho.off (by omega)), ht7.keep fun b hb hlt => ⟨hb, heap_setCell_other _ ⟨W.heap.size + 1, 3, none⟩ b v' (by have := hb.1; show b ≠ W.heap.size + 1; omega)⟩, by simp; omega, (fun h => by cases h), h.far, QS.put hTx hq7 (by omega) (by omega) 3 v', ?_⟩
  have h1 := (Below.refl w7.heap.size w7)
  have := (h1.setCell (p := ⟨w7.heap.size, 0, none⟩) (Nat.le_refl _) v')
  have h3 : (w7.setCell ⟨W.heap.size + 1, 3, none⟩ v').heap.size = w7.heap.size := by simp
  rw [h3]
  exact Nat.le_trans h.big hg.size
/-- What a walk over an array keeps, by its slot. -/
def ArrE (T : List Nat) (W : World) (R : Nat) (ao : Option Addr) (cap p : Nat) (mv : Value) (wr : World) : Prop :=
  ∃ (m : Bool) (M : List JC) (Ts : List JT) (lv : Value) (q : Nat) (d e b : Int), mv = .bool m ∧ ArrQ T W R ao cap p m M Ts lv q d e b wr

set_option maxHeartbeats 16000000 in
theorem array_any (w W : World) (R p : Nat) (d b : Int) (ao : Option Addr) (cap : Nat) (T : List Nat) (h : QS T w W R ao cap p d 0 b) (hlt : p < T.length) (hV : ∀ (wx : World) (qx : Nat) (dx ex bx : Int), p < qx → QS T wx wx R ao cap qx dx ex bx → Calls Tryz.prog 33 #[.pointer (some ⟨R, 0, none⟩)] wx (QV T wx R ao cap qx ex wx.heap.size)) :
    Calls Tryz.prog 58 #[.pointer (some ⟨R, 0, none⟩)] W (QV T w R ao cap p 0 W.heap.size) := by
  have HL := hide h.tx.len
  have HTX := hide h.tx
  have HRW := hide h.rq.lt
  have HQE := hide h
  have hq2 := (h.self (Below.refl _ _)).below ((bel W (.cells #[.int .i64 0, .string ⟨#[]⟩, .slice none 0 0, .slice none 0 0] 36)).alloc (by simp) (.cells #[.int .i64 5, .string ⟨#[]⟩, .slice none 0 0, .slice none 0 0] 36))
  have hA := (BoxC.new W 36 #[.int .i64 0, .string ⟨#[]⟩, .slice none 0 0, .slice none 0 0]).alloc (.cells #[.int .i64 5, .string ⟨#[]⟩, .slice none 0 0, .slice none 0 0] 36)
  have hB := BoxC.new (W.alloc (.cells #[.int .i64 0, .string ⟨#[]⟩, .slice none 0 0, .slice none 0 0] 36)) 36 #[.int .i64 5, .string ⟨#[]⟩, .slice none 0 0, .slice none 0 0]
  rw [World.size_alloc] at hB
  have hsz : ((W.alloc (.cells #[.int .i64 0, .string ⟨#[]⟩, .slice none 0 0, .slice none 0 0] 36)).alloc (.cells #[.int .i64 5, .string ⟨#[]⟩, .slice none 0 0, .slice none 0 0] 36)).heap.size = W.heap.size + 2 := by simp
  obtain ⟨w2, hw2⟩ : ∃ w2, (W.alloc (.cells #[.int .i64 0, .string ⟨#[]⟩, .slice none 0 0, .slice none 0 0] 36)).alloc (.cells #[.int .i64 5, .string ⟨#[]⟩, .slice none 0 0, .slice none 0 0] 36) = w2 := ⟨_, rfl⟩
  rw [hw2] at hq2 hA hB hsz
  have HW2 := hide hw2
  have HQ2 := hide hq2
  have HA2 := hide hA
  have HB2 := hide hB
  have HSZ := hide hsz
  have HEN := hide (enter_any w2 w2 R p d b 93 (by omega) ao cap T (hq2.self (Below.refl _ _)) hlt)
  have HV := hide hV
  clear h hlt hq2 hA hB hsz hw2 hV
  go_enter Tryz.func58, Tryz.ntmps58
  go_upto_region 2 with fail
  show Code.wp _ _ _ _ ((W.alloc (.cells #[.int .i64 0, .string ⟨#[]⟩, .slice none 0 0, .slice none 0 0] 36)).alloc (.cells #[.int .i64 5, .string ⟨#[]⟩, .slice none 0 0, .slice none 0 0] 36))
  rw [HW2.out]
  clear HW2
  go_wp2_with fail
  refine HEN.out.mono ?_
  rintro r w3 ⟨m, q, d3, e3, b3, rfl, hpq, hq, hm⟩
  have HA3 := hide (HA2.out.fr hq.fr (by have := HRW.out; omega) (by simp))
  have HB3 := hide (HB2.out.fr hq.fr (by have := HRW.out; omega) (by simp))
  have HQ3 := hide (HQ2.out.go hq.rq hq.fr hq.le hq.db)
  have HS3 : Hid (W.heap.size + 2 ≤ w3.heap.size) := hide (by have := hq.fr.size; have := HSZ.out; omega)
  have HPQ := hide hpq
  have HM := hide hm
  clear hq hpq hm HEN HA2 HB2 HQ2
  have hAB : ¬ W.heap.size = W.heap.size + 1 := by omega
  have hBA : ¬ W.heap.size + 1 = W.heap.size := by omega
  cases m
  · have HI : Hid (ArrE T W R ao cap p (.bool true) w3) := ⟨true, [], [], .slice none 0 0, q, d3, e3, b3, rfl, HA3.out, HB3.out, ownQ_nil _ _, ⟨rfl, fun i x hx => by simp at hx⟩, by simp, fun _ => by have := HM.out rfl; simp; omega, HM.out rfl, HQ3.out, HS3.out⟩
    clear HA3 HB3 HQ3 HS3 HPQ HM
    go_wp2
    go_loopw [4] (fun mv wr => ArrE T W R ao cap p mv wr) (fun mv wr => 2 * (T.length - rdAt wr R) + bN mv)
    case atStart => exact HI.out
    case round =>
      obtain ⟨m, M, Ts, lv, q, d0, e0, b0, rfl, hq⟩ := hrel
      obtain ⟨la, ln, lc, rfl⟩ := hq.own.slice
      have HS := hide hq
      have HAT := hide hq.qs.rq.at
      have c3 : wr.cell? ⟨R, 3, none⟩ = some (.int .i64 e0) := hq.qs.rq.cell 3
      have lR : R < wr.heap.size := hq.qs.rq.lt
      clear HI hq
      have HOUT : Hid (∀ (K : Act → World → Prop), True) := fun _ => trivial
      cases m
      · go_upto_region 9 with fail
        obtain ⟨la2, lc2, elv, htin⟩ := tin_list 5 ⟨#[]⟩ (.slice none 0 0) [] ⟨none, 0, rfl, fun j h => by simp at h⟩ HS.out.own (Nat.le_refl _) (HS.out.trees.keep (S' := fun k => W.heap.size + 2 ≤ k) fun b hb _ => ⟨hb.1, rfl⟩)
        have HT := hide htin
        have HSZL := hide (sz_list 5 [] (by simp) (by have := HS.out.len; have := HS.out.qs.le; omega) HS.out.trees)
        clear elv htin
        have x0 := HS.out.box.cell 0
        have x1 := HS.out.box.cell 1
        have x2 := HS.out.box.cell 2
        have x3 := HS.out.box.cell 3
        have lB := HS.out.box.lt
        have y0 := HS.out.res.frozen 0
        have y1 := HS.out.res.frozen 1
        have y2 := HS.out.res.frozen 2
        have y3 := HS.out.res.frozen 3
        have z0 := HS.out.res.cell 0
        have z1 := HS.out.res.cell 1
        have z2 := HS.out.res.cell 2
        have z3 := HS.out.res.cell 3
        have lA := HS.out.res.lt
        go_wp2
        have z := (((HS.out.res.set 0 (.int .i64 5)).set 1 (.string ⟨#[]⟩)).set 2 (.slice none 0 0)).set 3 (.slice la ln lc)
        refine bodyPost_ret (results_rv rfl rfl z) rfl ?_
        exact ⟨(5, ⟨#[]⟩, .slice none 0 0, .slice la ln lc), _, rfl, HT.out.keep (fun b hb hlt => ⟨by have := hb; omega, heap4 (by have := hb; omega) (.int .i64 5) (.string ⟨#[]⟩) (.slice none 0 0) (.slice la ln lc)⟩), HSZL.out, q, d0, e0, b0, Nat.le_of_lt HS.out.far, HQE.out.fin (Below.refl _ _) HS.out.qs (.int .i64 5) (.string ⟨#[]⟩) (.slice none 0 0) (.slice la ln lc), fun h => absurd rfl h⟩
      · by_cases hz : e0 = 0
        · subst hz
          go_wp2_with fail
          refine (HV.out wr q d0 0 b0 HS.out.far (HS.out.qs.self (Below.refl _ _))).mono ?_
          rintro r w4 ⟨x, Tr, rfl, ht, hsz, q4, d4, e4, b4, hq4, hs4, he4⟩
          obtain ⟨k, s, a1, n1, c1, a2, n2, c2, rfl⟩ := tin_form ht
          simp only [vagg]
          have HR4 := hide (HS.out.read HRW.out hs4 hq4 true (fun _ => Nat.lt_of_lt_of_le (HS.out.more rfl) hq4))
          have HT4 : Hid (TIn w4 (fun k => W.heap.size + 2 ≤ k ∧ (Value.slice la ln lc).ownBlock ≠ some k) (k, s, .slice a1 n1 c1, .slice a2 n2 c2) Tr) := hide (ht.keep fun b hb hlt => ⟨⟨by have := HS.out.big; omega, fun e => by have := (HS.out.own.lt b e).2; omega⟩, rfl⟩)
          have HZ4 := hide hsz
          have HQ4 := hide hq4
          clear ht hsz hq4 hs4 he4
          have hb5 := bel w4 (.cells #[.int .i64 k, .string s, .slice a1 n1 c1, .slice a2 n2 c2] 36)
          have hC5 := BoxC.new w4 36 #[.int .i64 k, .string s, .slice a1 n1 c1, .slice a2 n2 c2]
          obtain ⟨w5, hw5⟩ : ∃ w5, w4.alloc (.cells #[.int .i64 k, .string s, .slice a1 n1 c1, .slice a2 n2 c2] 36) = w5 := ⟨_, rfl⟩
          rw [hw5] at hb5 hC5
          have HR5 := hide (HR4.out.below HRW.out hb5)
          have HT5 := hide (HT4.out.bel hb5)
          have hb6 := bel w5 (.cells #[.int .i64 k, .string s, .slice a1 n1 c1, .slice a2 n2 c2] 36)
          have HR6 := hide (HR5.out.below HRW.out hb6)
          have HT6 := hide (HT5.out.bel hb6)
          have HD6 := hide (BoxC.new w5 36 #[.int .i64 k, .string s, .slice a1 n1 c1, .slice a2 n2 c2])
          have x3 := HR5.out.box.cell 3
          have lB := HR5.out.box.lt
          have C0 := hC5.cell 0
          have C1 := hC5.cell 1
          have C2 := hC5.cell 2
          have C3 := hC5.cell 3
          have lC := hC5.lt
          have HW5 := hide hw5
          clear hb5 hb6 hC5 hw5 HR4 HT4
          go_upto_region 7 with fail
          show Code.wp _ _ _ _ (w4.alloc (.cells #[.int .i64 k, .string s, .slice a1 n1 c1, .slice a2 n2 c2] 36))
          rw [HW5.out]
          clear HW5
          go_upto_region 8 with (at_builtin; go_must (refine wpList_appQ _ rfl (.tmp 21) (.tmp 23) rfl (W.heap.size + 2) (.slice la ln lc) M rfl HR6.out.own w5.heap.size 1 (k, s, .slice a1 n1 c1, .slice a2 n2 c2) rfl HD6.out ⟨rfl, rfl⟩ (by have := HR6.out.len; have := HR6.out.qs.le; have := HL.out; omega) (by have := HR6.out.big; simpa using this) ?_; intro v' w7 hown' hgrow hrow); have HR8 := hide (HR6.out.app HRW.out HTX.out HT6.out HZ4.out (HR6.out.more rfl) hown' hgrow hrow); have hb7 := BoxC.kept HR6.out.box hgrow (fun e => (HR6.out.own.off (show W.heap.size + 1 < W.heap.size + 2 by omega)) e.symm); obtain ⟨la7, ln7, lc7, hv7⟩ := hown'.slice; subst hv7; have f7 := hb7.frozen 3; have c7 := hb7.cell 3; have l7 := hb7.lt; clear hown' hgrow hrow hb7)
          clear HR5 HR6 HT5 HT6 HD6 x3 lB C0 C1 C2 C3 lC
          have HMO := hide (more_any _ _ R q4 d4 e4 b4 93 (by omega) ao cap T (HR8.out.qs.self (Below.refl _ _)))
          go_wp2_with fail
          refine HMO.out.mono ?_
          rintro r w9 ⟨m, q9, d9, e9, b9, rfl, hq9, hs9, he9, hm9⟩
          have HREL : Hid (ArrE T W R ao cap p (.bool m) w9) := hide ⟨m, _, _, _, q9, d9, e9, b9, rfl, HR8.out.read HRW.out hs9 hq9 m (fun h => Nat.lt_of_le_of_lt HR8.out.len (hm9 h))⟩
          have HMS : Hid (2 * (T.length - rdAt w9 R) + bN (.bool m) < 2 * (T.length - q) + 1) := hide (by
            rw [hs9.rq.at]
            have h1 := hs9.le
            have h2 := HQ4.out
            cases m
            · have h3 := HS.out.qs.le
              simp only [bN]
              omega
            · have h3 := hm9 rfl
              simp only [bN]
              omega)
          clear hq9 hs9 he9 hm9
          go_wp2
          go_roundw
          case rel => exact HREL.out
          case measure =>
            rw [HAT.out]
            exact HMS.out
        · have dz : (e0 == 0) = false := by simpa using hz
          go_upto_region 9 with fail
          obtain ⟨la2, lc2, elv, htin⟩ := tin_list 5 ⟨#[]⟩ (.slice none 0 0) [] ⟨none, 0, rfl, fun j h => by simp at h⟩ HS.out.own (Nat.le_refl _) (HS.out.trees.keep (S' := fun k => W.heap.size + 2 ≤ k) fun b hb _ => ⟨hb.1, rfl⟩)
          have HT := hide htin
          have HSZL := hide (sz_list 5 [] (by simp) (by have := HS.out.len; have := HS.out.qs.le; omega) HS.out.trees)
          clear elv htin
          have x0 := HS.out.box.cell 0
          have x1 := HS.out.box.cell 1
          have x2 := HS.out.box.cell 2
          have x3 := HS.out.box.cell 3
          have lB := HS.out.box.lt
          have y0 := HS.out.res.frozen 0
          have y1 := HS.out.res.frozen 1
          have y2 := HS.out.res.frozen 2
          have y3 := HS.out.res.frozen 3
          have z0 := HS.out.res.cell 0
          have z1 := HS.out.res.cell 1
          have z2 := HS.out.res.cell 2
          have z3 := HS.out.res.cell 3
          have lA := HS.out.res.lt
          go_wp2
          have z := (((HS.out.res.set 0 (.int .i64 5)).set 1 (.string ⟨#[]⟩)).set 2 (.slice none 0 0)).set 3 (.slice la ln lc)
          refine bodyPost_ret (results_rv rfl rfl z) rfl ?_
          exact ⟨(5, ⟨#[]⟩, .slice none 0 0, .slice la ln lc), _, rfl, HT.out.keep (fun b hb hlt => ⟨by have := hb; omega, heap4 (by have := hb; omega) (.int .i64 5) (.string ⟨#[]⟩) (.slice none 0 0) (.slice la ln lc)⟩), HSZL.out, q, d0, e0, b0, Nat.le_of_lt HS.out.far, HQE.out.fin (Below.refl _ _) HS.out.qs (.int .i64 5) (.string ⟨#[]⟩) (.slice none 0 0) (.slice la ln lc), fun h => absurd rfl h⟩
  · have x0 := HB3.out.cell 0
    have x1 := HB3.out.cell 1
    have x2 := HB3.out.cell 2
    have x3 := HB3.out.cell 3
    have lB := HB3.out.lt
    have y0 := HA3.out.frozen 0
    have y1 := HA3.out.frozen 1
    have y2 := HA3.out.frozen 2
    have y3 := HA3.out.frozen 3
    have z0 := HA3.out.cell 0
    have z1 := HA3.out.cell 1
    have z2 := HA3.out.cell 2
    have z3 := HA3.out.cell 3
    have lA := HA3.out.lt
    go_wp2
    have z := (((HA3.out.set 0 (.int .i64 5)).set 1 (.string ⟨#[]⟩)).set 2 (.slice none 0 0)).set 3 (.slice none 0 0)
    refine bodyPost_ret (results_rv rfl rfl z) rfl ?_
    exact ⟨(5, ⟨#[]⟩, .slice none 0 0, .slice none 0 0), _, rfl, tin_leaf _ _ _ _, sz_leaf _ _ _ (Nat.zero_le _), q, d3, e3, b3, HPQ.out, HQE.out.fin (Below.refl _ _) HQ3.out (.int .i64 5) (.string ⟨#[]⟩) (.slice none 0 0) (.slice none 0 0), fun h => absurd rfl h⟩

end Go.Proofs.YtbdpmpepmjpadaaGreatDoor

namespace Go.Proofs.YtbdpmpepmjpadaaGreatDoor
set_option linter.unusedVariables false
set_option linter.unusedSimpArgs false
set_option maxRecDepth 100000
open Go Go.RowKit Go.Shelf Go.Lib

/-- Appending a text to one's own, where nothing draws. -/
theorem wpList_appS (w : World) {ops : Array Oper} {rest : List Oper} {o : Oper} {a : Act} {Q : Exit → Act → World → Prop} (hg : o.guard = none) (s x : Operand)
    (ho : o.op = .call { callee := .builtin .append, args := #[s, x], argTypes := #[24, 24] })
    (n₀ : Nat) (v : Value) (Ks : List ByteArray) (hs : a.eval s = v) (hown : OwnS n₀ w v Ks) (b c : Nat) (y : ByteArray) (hx : a.eval x = .slice (some ⟨b, 0, none⟩) 1 c) (hl : BoxC w b 9 #[.string y]) (hsum : Ks.length ≤ 1000000000) (hbase : n₀ ≤ w.heap.size)
    (h : ∀ v' w', OwnS n₀ w' v' (Ks ++ [y]) → w.grownBy w' v.ownBlock → (v'.ownBlock = v.ownBlock ∨ v'.ownBlock = some w.heap.size) → wpList Tryz.prog ops Q rest (a.put o.dst v') w') : wpList Tryz.prog ops Q (o :: rest) a w :=
  wpList_plain hg fun K hK => wp_appS w s x ho n₀ v Ks hs hown b c y hx hl hsum hbase fun v' w' h1 h2 h3 => hK _ _ (h v' w' h1 h2 h3)
theorem OwnS.fr {n₀ R : Nat} {w w' : World} {v : Value} {K : List ByteArray} (h : OwnS n₀ w v K) (k : Fr R none w w') (hR : R < n₀) : OwnS n₀ w' v K := h.keep fun j e => by
  have := h.lt j e
  exact k.block this.2 (by omega) (by simp)
/-- One's own texts are texts in memory. -/
theorem OwnS.strs {n n₀ : Nat} {w : World} {v : Value} {K : List ByteArray} (h : OwnS n₀ w v K) (hn : n ≤ n₀) : StrsS w (fun b => n ≤ b) v K := by
  obtain ⟨ao, c, rfl, _⟩ := h.len
  refine ⟨ao, c, rfl, fun j hj => ?_⟩
  have hm : K[j]? = some K[j] := List.getElem?_eq_getElem hj
  obtain ⟨g, e, hc⟩ := h.cell hm
  have hg : n ≤ g := by
    have := h.lt g (by rw [e]; rfl)
    omega
  refine ⟨g, 0, e, hg, ?_⟩
  rw [Nat.zero_add, hc, nthS, hm]
  rfl
theorem QS.grownS {T : List Nat} {W w w5 : World} {R n₀ : Nat} {ao : Option Addr} {cap q : Nat} {d e b : Int} {ov : Value} {M : List ByteArray} (h0 : R < W.heap.size) (hn : W.heap.size ≤ n₀) (hTx : TxJ W R ao cap T) (h : QS T W w R ao cap q d e b) (ho : OwnS n₀ w ov M) (hg : w.grownBy w5 ov.ownBlock) : QS T W w5 R ao cap q d e b := by
  have hrow : RowTo W none ov.ownBlock := by
    cases hob : ov.ownBlock with
    | none => exact .inl rfl
    | some j => exact .inr (.inr ⟨j, rfl, Nat.le_trans hn (ho.lt j hob).1⟩)
  have hf := h.fr.trans (Fr.grown hg) hrow
  exact ⟨BoxC.kept h.rq hg (fun q => ho.off (show R < n₀ by omega) q.symm), hTx.fr hf, hf, h.le, h.db⟩
/-- An object under way: A its result's box, A + 1 its own. -/
structure ObjQ (T : List Nat) (W : World) (R : Nat) (ao : Option Addr) (cap p : Nat) (K : List ByteArray) (kv : Value) (M : List JC) (Ts : List JT) (lv : Value) (q : Nat) (d e b : Int) (wr : World) : Prop where
  res : BoxC wr W.heap.size 36 #[.int .i64 0, .string ⟨#[]⟩, .slice none 0 0, .slice none 0 0]
  box : BoxC wr (W.heap.size + 1) 36 #[.int .i64 6, .string ⟨#[]⟩, kv, lv]
  keys : OwnS (W.heap.size + 2) wr kv K
  own : OwnQ (W.heap.size + 2) wr lv M
  two : ∀ j, kv.ownBlock = some j → lv.ownBlock ≠ some j
  trees : TreesQ T (fun k => W.heap.size + 2 ≤ k ∧ lv.ownBlock ≠ some k ∧ kv.ownBlock ≠ some k) wr M Ts
  lenK : K.length ≤ q
  lenM : M.length ≤ q
  far : p < q
  qs : QS T W wr R ao cap q d e b
  big : W.heap.size + 2 ≤ wr.heap.size
theorem ObjQ.read {T : List Nat} {W wr w4 : World} {R : Nat} {ao : Option Addr} {cap p q q4 : Nat} {K : List ByteArray} {kv : Value} {M : List JC} {Ts : List JT} {lv : Value} {d e b d4 e4 b4 : Int} (h : ObjQ T W R ao cap p K kv M Ts lv q d e b wr) (hR : R < W.heap.size) (hs : QS T wr w4 R ao cap q4 d4 e4 b4) (hq : q ≤ q4) : ObjQ T W R ao cap p K kv M Ts lv q4 d4 e4 b4 w4 :=
  ⟨h.res.fr hs.fr (by omega) (by simp), h.box.fr hs.fr (by omega) (by simp), h.keys.fr hs.fr (by omega), h.own.fr hs.fr (by omega), h.two, h.trees.keep fun b hb hlt => ⟨hb, hs.fr.block hlt (by have := hb.1; omega) (by simp)⟩, Nat.le_trans h.lenK hq, Nat.le_trans h.lenM hq, Nat.lt_of_lt_of_le h.far hq, h.qs.go hs.rq hs.fr hs.le hs.db, Nat.le_trans h.big hs.fr.size⟩
theorem ObjQ.below {T : List Nat} {W wr w4 : World} {R : Nat} {ao : Option Addr} {cap p q : Nat} {K : List ByteArray} {kv : Value} {M : List JC} {Ts : List JT} {lv : Value} {d e b : Int} (h : ObjQ T W R ao cap p K kv M Ts lv q d e b wr) (hR : R < W.heap.size) (hb : Below wr.heap.size wr w4) : ObjQ T W R ao cap p K kv M Ts lv q d e b w4 :=
  h.read hR ⟨h.qs.rq.below hb, h.qs.tx.fr (Fr.of hb), Fr.of hb, h.qs.le, h.qs.db⟩ (Nat.le_refl _)
/-- Behind a key's append and its store. -/
theorem ObjQ.appK {T : List Nat} {W w6 w7 : World} {R : Nat} {ao : Option Addr} {cap p q : Nat} {K : List ByteArray} {kv : Value} {M : List JC} {Ts : List JT} {lv v' : Value} {s : ByteArray} {d e b : Int} (h : ObjQ T W R ao cap p K kv M Ts lv q d e b w6) (hR : R < W.heap.size) (hTx : TxJ W R ao cap T) (hml : K.length < q)
    (ho : OwnS (W.heap.size + 2) w7 v' (K ++ [s])) (hg : w6.grownBy w7 kv.ownBlock) (hrow : v'.ownBlock = kv.ownBlock ∨ v'.ownBlock = some w6.heap.size) : ObjQ T W R ao cap p (K ++ [s]) v' M Ts lv q d e b (w7.setCell ⟨W.heap.size + 1, 2, none⟩ v') := by
  have hb7 := BoxC.kept h.box hg (fun e => (h.keys.off (show W.heap.size + 1 < W.heap.size + 2 by omega)) e.symm)
  have hr7 := BoxC.kept h.res hg (fun e => (h.keys.off (show W.heap.size < W.heap.size + 2 by omega)) e.symm)
  have hq7 := QS.grownS hR (by omega) hTx h.qs h.keys hg
  have hl7 : OwnQ (W.heap.size + 2) w7 lv M := h.own.keep fun j e => hg.block j (h.own.lt j e).2 (fun e2 => h.two j e2.symm e)
  have ht7 : TreesQ T (fun k => W.heap.size + 2 ≤ k ∧ lv.ownBlock ≠ some k ∧ v'.ownBlock ≠ some k) w7 M Ts := h.trees.keep fun b hb hlt => by
    refine ⟨⟨hb.1, hb.2.1, fun e => ?_⟩, hg.block b hlt (fun e => hb.2.2 e.symm)⟩
    rcases hrow with h | h
    · exact hb.2.2 (h ▸ e)
    · rw [h] at e
      cases e
      omega
  refine ⟨hr7.other (by omega) 2 v', hb7.set 2 v', ho.set (ho.off (by omega)), hl7.set (hl7.off (by omega)), fun j e => ?_, ht7.keep fun b hb hlt => ⟨hb, heap_setCell_other _ ⟨W.heap.size + 1, 2, none⟩ b v' (by have := hb.1; show b ≠ W.heap.size + 1; omega)⟩, by simp; omega, h.lenM, h.far, QS.put hTx hq7 (by omega) (by omega) 2 v', ?_⟩
  · rcases hrow with h1 | h1
    · exact h.two j (h1 ▸ e)
    · rw [h1] at e
      cases e
      intro e2
      have := (h.own.lt _ e2).2
      omega
  · have h3 : (w7.setCell ⟨W.heap.size + 1, 2, none⟩ v').heap.size = w7.heap.size := by simp
    rw [h3]
    exact Nat.le_trans h.big hg.size
/-- Behind a value's append and its store. -/
theorem ObjQ.appM {T : List Nat} {W w6 w7 : World} {R : Nat} {ao : Option Addr} {cap p q : Nat} {K : List ByteArray} {kv : Value} {M : List JC} {Ts : List JT} {lv v' : Value} {x : JC} {Tr : JT} {d e b : Int} (h : ObjQ T W R ao cap p K kv M Ts lv q d e b w6) (hR : R < W.heap.size) (hTx : TxJ W R ao cap T) (ht : TIn w6 (fun k => W.heap.size + 2 ≤ k ∧ lv.ownBlock ≠ some k ∧ kv.ownBlock ≠ some k) x Tr) (hz : SzT T.length Tr) (hml : M.length < q)
    (ho : OwnQ (W.heap.size + 2) w7 v' (M ++ [x])) (hg : w6.grownBy w7 lv.ownBlock) (hrow : v'.ownBlock = lv.ownBlock ∨ v'.ownBlock = some w6.heap.size) : ObjQ T W R ao cap p K kv (M ++ [x]) (Ts ++ [Tr]) v' q d e b (w7.setCell ⟨W.heap.size + 1, 3, none⟩ v') := by
  have hb7 := BoxC.kept h.box hg (fun e => (h.own.off (show W.heap.size + 1 < W.heap.size + 2 by omega)) e.symm)
  have hr7 := BoxC.kept h.res hg (fun e => (h.own.off (show W.heap.size < W.heap.size + 2 by omega)) e.symm)
  have hq7 := QS.grownQ hR (by omega) hTx h.qs h.own hg
  have hk7 : OwnS (W.heap.size + 2) w7 kv K := h.keys.keep fun j e => hg.block j (h.keys.lt j e).2 (fun e2 => h.two j e e2.symm)
  have ht6 := h.trees.snoc ht hz
  have ht7 : TreesQ T (fun k => W.heap.size + 2 ≤ k ∧ v'.ownBlock ≠ some k ∧ kv.ownBlock ≠ some k) w7 (M ++ [x]) (Ts ++ [Tr]) := ht6.keep fun b hb hlt => by
    refine ⟨⟨hb.1, fun e => ?_, hb.2.2⟩, hg.block b hlt (fun e => hb.2.1 e.symm)⟩
    rcases hrow with h | h
    · exact hb.2.1 (h ▸ e)
    · rw [h] at e
      cases e
      omega
  refine ⟨hr7.other (by omega) 3 v', hb7.set 3 v', hk7.set (hk7.off (by omega)), ho.set (ho.off (by omega)), fun j e => ?_, ht7.keep fun b hb hlt => ⟨hb, heap_setCell_other _ ⟨W.heap.size + 1, 3, none⟩ b v' (by have := hb.1; show b ≠ W.heap.size + 1; omega)⟩, h.lenK, by simp; omega, h.far, QS.put hTx hq7 (by omega) (by omega) 3 v', ?_⟩
  · rcases hrow with h1 | h1
    · rw [h1]
      exact h.two j e
    · rw [h1]
      intro e2
      cases e2
      have := (h.keys.lt _ e).2
      omega
  · have h3 : (w7.setCell ⟨W.heap.size + 1, 3, none⟩ v').heap.size = w7.heap.size := by simp
    rw [h3]
    exact Nat.le_trans h.big hg.size

end Go.Proofs.YtbdpmpepmjpadaaGreatDoor

namespace Go.Proofs.YtbdpmpepmjpadaaGreatDoor
set_option linter.unusedVariables false
set_option linter.unusedSimpArgs false
set_option maxRecDepth 100000
open Go Go.RowKit Go.Shelf Go.Lib

/-- A tree stays behind a key's append and its store. -/
theorem appT {n : Nat} {w6 w7 : World} {kv lv v' : Value} {x : JC} {Tr : JT} (hg : w6.grownBy w7 kv.ownBlock) (hrow : v'.ownBlock = kv.ownBlock ∨ v'.ownBlock = some w6.heap.size) (ht : TIn w6 (fun k => n + 2 ≤ k ∧ lv.ownBlock ≠ some k ∧ kv.ownBlock ≠ some k) x Tr) : TIn (w7.setCell ⟨n + 1, 2, none⟩ v') (fun k => n + 2 ≤ k ∧ lv.ownBlock ≠ some k ∧ v'.ownBlock ≠ some k) x Tr := by
  refine ht.keep fun b hb hlt => ?_
  refine ⟨⟨hb.1, hb.2.1, fun e => ?_⟩, (heap_setCell_other _ ⟨n + 1, 2, none⟩ b v' (by have := hb.1; show b ≠ n + 1; omega)).trans (hg.block b hlt (fun e => hb.2.2 e.symm))⟩
  rcases hrow with h | h
  · exact hb.2.2 (h ▸ e)
  · rw [h] at e
    cases e
    omega
/-- What a walk over an object keeps, by its slot. -/
def ObjE (T : List Nat) (W : World) (R : Nat) (ao : Option Addr) (cap p : Nat) (mv : Value) (wr : World) : Prop :=
  ∃ (m : Bool) (K : List ByteArray) (kv : Value) (M : List JC) (Ts : List JT) (lv : Value) (q : Nat) (d e b : Int), mv = .bool m ∧ (m = true → K.length < q ∧ M.length < q) ∧ ObjQ T W R ao cap p K kv M Ts lv q d e b wr

set_option maxHeartbeats 16000000 in
theorem object_any (w W : World) (R p : Nat) (d b : Int) (ao : Option Addr) (cap : Nat) (T : List Nat) (h : QS T w W R ao cap p d 0 b) (hlt : p < T.length) (hV : ∀ (wx : World) (qx : Nat) (dx ex bx : Int), p < qx → QS T wx wx R ao cap qx dx ex bx → Calls Tryz.prog 33 #[.pointer (some ⟨R, 0, none⟩)] wx (QV T wx R ao cap qx ex wx.heap.size)) :
    Calls Tryz.prog 57 #[.pointer (some ⟨R, 0, none⟩)] W (QV T w R ao cap p 0 W.heap.size) := by
  have HL := hide h.tx.len
  have HTX := hide h.tx
  have HRW := hide h.rq.lt
  have HQE := hide h
  have hq2 := (h.self (Below.refl _ _)).below ((bel W (.cells #[.int .i64 0, .string ⟨#[]⟩, .slice none 0 0, .slice none 0 0] 36)).alloc (by simp) (.cells #[.int .i64 6, .string ⟨#[]⟩, .slice none 0 0, .slice none 0 0] 36))
  have hA := (BoxC.new W 36 #[.int .i64 0, .string ⟨#[]⟩, .slice none 0 0, .slice none 0 0]).alloc (.cells #[.int .i64 6, .string ⟨#[]⟩, .slice none 0 0, .slice none 0 0] 36)
  have hB := BoxC.new (W.alloc (.cells #[.int .i64 0, .string ⟨#[]⟩, .slice none 0 0, .slice none 0 0] 36)) 36 #[.int .i64 6, .string ⟨#[]⟩, .slice none 0 0, .slice none 0 0]
  rw [World.size_alloc] at hB
  have hsz : ((W.alloc (.cells #[.int .i64 0, .string ⟨#[]⟩, .slice none 0 0, .slice none 0 0] 36)).alloc (.cells #[.int .i64 6, .string ⟨#[]⟩, .slice none 0 0, .slice none 0 0] 36)).heap.size = W.heap.size + 2 := by simp
  obtain ⟨w2, hw2⟩ : ∃ w2, (W.alloc (.cells #[.int .i64 0, .string ⟨#[]⟩, .slice none 0 0, .slice none 0 0] 36)).alloc (.cells #[.int .i64 6, .string ⟨#[]⟩, .slice none 0 0, .slice none 0 0] 36) = w2 := ⟨_, rfl⟩
  rw [hw2] at hq2 hA hB hsz
  have HW2 := hide hw2
  have HQ2 := hide hq2
  have HA2 := hide hA
  have HB2 := hide hB
  have HSZ := hide hsz
  have HEN := hide (enter_any w2 w2 R p d b 125 (by omega) ao cap T (hq2.self (Below.refl _ _)) hlt)
  have HV := hide hV
  clear h hlt hq2 hA hB hsz hw2 hV
  go_enter Tryz.func57, Tryz.ntmps57
  go_upto_region 2 with fail
  show Code.wp _ _ _ _ ((W.alloc (.cells #[.int .i64 0, .string ⟨#[]⟩, .slice none 0 0, .slice none 0 0] 36)).alloc (.cells #[.int .i64 6, .string ⟨#[]⟩, .slice none 0 0, .slice none 0 0] 36))
  rw [HW2.out]
  clear HW2
  go_wp2_with fail
  refine HEN.out.mono ?_
  rintro r w3 ⟨m, q, d3, e3, b3, rfl, hpq, hq, hm⟩
  have HA3 := hide (HA2.out.fr hq.fr (by have := HRW.out; omega) (by simp))
  have HB3 := hide (HB2.out.fr hq.fr (by have := HRW.out; omega) (by simp))
  have HQ3 := hide (HQ2.out.go hq.rq hq.fr hq.le hq.db)
  have HS3 : Hid (W.heap.size + 2 ≤ w3.heap.size) := hide (by have := hq.fr.size; have := HSZ.out; omega)
  have HPQ := hide hpq
  have HM := hide hm
  clear hq hpq hm HEN HA2 HB2 HQ2
  have hAB : ¬ W.heap.size = W.heap.size + 1 := by omega
  have hBA : ¬ W.heap.size + 1 = W.heap.size := by omega
  cases m
  · have HI : Hid (ObjE T W R ao cap p (.bool true) w3) := ⟨true, [], .slice none 0 0, [], [], .slice none 0 0, q, d3, e3, b3, rfl, fun _ => by have := HM.out rfl; simp; omega, HA3.out, HB3.out, ownS_nil _ _, ownQ_nil _ _, fun j e => by simp [Value.ownBlock] at e, ⟨rfl, fun i x hx => by simp at hx⟩, by simp, by simp, HM.out rfl, HQ3.out, HS3.out⟩
    clear HA3 HB3 HQ3 HS3 HPQ HM
    go_wp2
    go_loopw [4] (fun mv wr => ObjE T W R ao cap p mv wr) (fun mv wr => 2 * (T.length - rdAt wr R) + bN mv)
    case atStart => exact HI.out
    case round =>
      obtain ⟨m, K, kv, M, Ts, lv, q, d0, e0, b0, rfl, hmm, hq⟩ := hrel
      obtain ⟨la, ln, lc, rfl⟩ := hq.own.slice
      obtain ⟨ka, kc, rfl, hkc⟩ := hq.keys.len
      have HS := hide hq
      have HMM := hide hmm
      have HAT := hide hq.qs.rq.at
      have c3 : wr.cell? ⟨R, 3, none⟩ = some (.int .i64 e0) := hq.qs.rq.cell 3
      have c1 : wr.cell? ⟨R, 1, none⟩ = some (.int .i64 (q : Int)) := hq.qs.rq.cell 1
      have lR : R < wr.heap.size := hq.qs.rq.lt
      clear HI hq hmm hkc
      cases m
      · go_upto_region 20 with fail
        obtain ⟨la2, lc2, elv, htin⟩ := tin_list 6 ⟨#[]⟩ (.slice ka K.length kc) K (HS.out.keys.strs (Nat.le_refl _)) HS.out.own (Nat.le_refl _) (HS.out.trees.keep (S' := fun k => W.heap.size + 2 ≤ k) fun b hb _ => ⟨hb.1, rfl⟩)
        have HT := hide htin
        have HSZL := hide (sz_list 6 K (by have := HS.out.lenK; have := HS.out.qs.le; omega) (by have := HS.out.lenM; have := HS.out.qs.le; omega) HS.out.trees)
        clear elv htin
        have x0 := HS.out.box.cell 0
        have x1 := HS.out.box.cell 1
        have x2 := HS.out.box.cell 2
        have x3 := HS.out.box.cell 3
        have lB := HS.out.box.lt
        have y0 := HS.out.res.frozen 0
        have y1 := HS.out.res.frozen 1
        have y2 := HS.out.res.frozen 2
        have y3 := HS.out.res.frozen 3
        have z0 := HS.out.res.cell 0
        have z1 := HS.out.res.cell 1
        have z2 := HS.out.res.cell 2
        have z3 := HS.out.res.cell 3
        have lA := HS.out.res.lt
        go_wp2
        have z := (((HS.out.res.set 0 (.int .i64 6)).set 1 (.string ⟨#[]⟩)).set 2 (.slice ka K.length kc)).set 3 (.slice la ln lc)
        refine bodyPost_ret (results_rv rfl rfl z) rfl ?_
        exact ⟨(6, ⟨#[]⟩, .slice ka K.length kc, .slice la ln lc), _, rfl, HT.out.keep (fun b hb hlt => ⟨by have := hb; omega, heap4 (by have := hb; omega) (.int .i64 6) (.string ⟨#[]⟩) (.slice ka K.length kc) (.slice la ln lc)⟩), HSZL.out, q, d0, e0, b0, Nat.le_of_lt HS.out.far, HQE.out.fin (Below.refl _ _) HS.out.qs (.int .i64 6) (.string ⟨#[]⟩) (.slice ka K.length kc) (.slice la ln lc), fun h => absurd rfl h⟩
      · by_cases hz : e0 = 0
        · subst hz
          go_wp2_with fail
          refine (text_any wr wr R q d0 0 b0 ao cap T (HS.out.qs.self (Below.refl _ _))).mono ?_
          rintro r w5 ⟨key, ⟨rfl, hks⟩, q5, d5, e5, b5, hq5, hs5, he5⟩
          have HR5 := hide (HS.out.read HRW.out hs5 hq5)
          have HQ5 := hide hq5
          clear hks hq5 hs5 he5
          have HKN : Hid (K.length ≤ 1000000) := hide (by have := HR5.out.lenK; have := HR5.out.qs.le; have := HL.out; omega)
          have HII : Hid (∃ (i : Nat) (e' b' : Int), Value.int .i64 0 = .int .i64 (i : Int) ∧ i ≤ K.length ∧ ObjQ T W R ao cap p K (.slice ka K.length kc) M Ts (.slice la ln lc) q5 d5 e' b' w5) := ⟨0, e5, b5, rfl, Nat.zero_le _, HR5.out⟩
          clear c3 c1 lR
          go_wp2
          go_loopw [7] (fun iv wx => ∃ (i : Nat) (e' b' : Int), iv = .int .i64 (i : Int) ∧ i ≤ K.length ∧ ObjQ T W R ao cap p K (.slice ka K.length kc) M Ts (.slice la ln lc) q5 d5 e' b' wx) (fun iv _ => K.length - (RowKit.intOf iv).toNat)
          case atStart => exact HII.out
          case round =>
            obtain ⟨i, e6, b6, rfl, hi, hq6⟩ := hrel
            have HR6 := hide hq6
            have x2 := hq6.box.cell 2
            have lB := hq6.box.lt
            have c3 : wr.cell? ⟨R, 3, none⟩ = some (.int .i64 e6) := hq6.qs.rq.cell 3
            clear HII hq6
            by_cases hlt : i < K.length
            · obtain ⟨g, rfl, cx⟩ := HR6.out.keys.cell (List.getElem?_eq_getElem hlt)
              obtain ⟨t, ht⟩ : ∃ t, K[i] = t := ⟨_, rfl⟩
              rw [ht] at cx
              obtain ⟨j1, hj1⟩ : ∃ j1, i + 1 = j1 := ⟨_, rfl⟩
              have ej : (i : Int) + 1 = (j1 : Int) := by omega
              have g1 : (j1 : Int) ≤ 1000000000 := by have := HKN.out; omega
              have dl : (i : Int) < (K.length : Int) := by omega
              have d0 : (0 : Int) ≤ (i : Int) := by omega
              have HJ := hide (And.intro hlt hj1)
              clear ht hlt hj1 hi
              by_cases tk : t = key
              · subst tk
                go_wp2_with fail
                refine (fail_q wr wr R q5 d5 e6 b6 23 _ ao cap T (HR6.out.qs.self (Below.refl _ _)) (by omega)).mono ?_
                rintro r w7 ⟨e7, b7, rfl, hq7, he7⟩
                have HREL : Hid (∃ (i : Nat) (e' b' : Int), Value.int .i64 (j1 : Int) = .int .i64 (i : Int) ∧ i ≤ K.length ∧ ObjQ T W R ao cap p K (.slice (some ⟨g, 0, none⟩) K.length kc) M Ts (.slice la ln lc) q5 d5 e' b' w7) := ⟨j1, e7, b7, rfl, by have := HJ.out; omega, HR6.out.read HRW.out hq7 (Nat.le_refl _)⟩
                clear hq7 he7
                go_wp2
                go_roundw
                case rel => exact HREL.out
                case measure => have := HJ.out; simp [RowKit.intOf]; omega
              · have dne : (t.toList == key.toList) = false := str_ne tk
                go_wp2
                go_roundw
                case rel => exact ⟨j1, e6, b6, by first | rfl | go_num, by have := HJ.out; omega, HR6.out⟩
                case measure => have := HJ.out; simp [RowKit.intOf]; omega
            · obtain rfl : i = K.length := by omega
              have dl : ¬ (K.length : Int) < (K.length : Int) := by omega
              clear hlt hi
              go_wp2_with fail
              refine (blank_q wr wr R q5 d5 e6 b6 ao cap T (HR6.out.qs.self (Below.refl _ _))).mono ?_
              rintro r w8 ⟨rfl, q8, hq8, hs8⟩
              have HR8 := hide (HR6.out.read HRW.out hs8 hq8)
              have HQ8 := hide hq8
              clear hq8 hs8 x2 lB c3 dl HR6
              go_wp2_with fail
              refine (must_any w8 w8 R q8 d5 e6 b6 58 ao cap T (HR8.out.qs.self (Below.refl _ _))).mono ?_
              rintro r w9 ⟨rfl, q9, d9, e9, b9, hq9, hs9, he9⟩
              have HR9 := hide (HR8.out.read HRW.out hs9 hq9)
              have HQ9 := hide hq9
              clear hq9 hs9 he9 HR8
              go_wp2_with fail
              refine (blank_q w9 w9 R q9 d9 e9 b9 ao cap T (HR9.out.qs.self (Below.refl _ _))).mono ?_
              rintro r w10 ⟨rfl, q10, hq10, hs10⟩
              have HR10 := hide (HR9.out.read HRW.out hs10 hq10)
              have HQ10 := hide hq10
              clear hq10 hs10 HR9
              go_wp2_with fail
              refine (HV.out w10 q10 d9 e9 b9 HR10.out.far (HR10.out.qs.self (Below.refl _ _))).mono ?_
              rintro r w11 ⟨x, Tr, rfl, ht, hsz, q11, d11, e11, b11, hq11, hs11, he11⟩
              obtain ⟨k, s, a1, n1, c1, a2, n2, c2, rfl⟩ := tin_form ht
              simp only [vagg]
              have HR11 := hide (HR10.out.read HRW.out hs11 hq11)
              have HT11 : Hid (TIn w11 (fun k => W.heap.size + 2 ≤ k ∧ (Value.slice la ln lc).ownBlock ≠ some k ∧ (Value.slice ka K.length kc).ownBlock ≠ some k) (k, s, .slice a1 n1 c1, .slice a2 n2 c2) Tr) := hide (ht.keep fun b hb hlt => ⟨⟨by have := HR10.out.big; omega, fun e => by have := (HR10.out.own.lt b e).2; omega, fun e => by have := (HR10.out.keys.lt b e).2; omega⟩, rfl⟩)
              have HZ11 := hide hsz
              have HKQ : Hid (K.length < q11 ∧ M.length < q11) := hide (by have := HMM.out (by first | rfl | trivial); have := HQ5.out; have := HQ8.out; have := HQ9.out; have := HQ10.out; omega)
              have HQQ : Hid (q ≤ q11) := hide (by have := HQ5.out; have := HQ8.out; have := HQ9.out; have := HQ10.out; omega)
              clear ht hsz hq11 hs11 he11 HR10 HQ5 HQ8 HQ9 HQ10
              have hb12 := bel w11 (.cells #[.int .i64 k, .string s, .slice a1 n1 c1, .slice a2 n2 c2] 36)
              have hC12 := BoxC.new w11 36 #[.int .i64 k, .string s, .slice a1 n1 c1, .slice a2 n2 c2]
              have HW12 : Hid (w11.alloc (.cells #[.int .i64 k, .string s, .slice a1 n1 c1, .slice a2 n2 c2] 36) = w11.alloc (.cells #[.int .i64 k, .string s, .slice a1 n1 c1, .slice a2 n2 c2] 36)) := rfl
              obtain ⟨w12, hw12⟩ : ∃ w12, w11.alloc (.cells #[.int .i64 k, .string s, .slice a1 n1 c1, .slice a2 n2 c2] 36) = w12 := ⟨_, rfl⟩
              rw [hw12] at hb12 hC12
              have HR12 := hide (HR11.out.below HRW.out hb12)
              have HT12 := hide (HT11.out.bel hb12)
              have hb13 := bel w12 (.cells #[.string key] 9)
              have HR13 := hide (HR12.out.below HRW.out hb13)
              have HT13 := hide (HT12.out.bel hb13)
              have HC13 := hide (hC12.alloc (.cells #[.string key] 9))
              have HD13 := hide (BoxC.new w12 9 #[.string key])
              have HCB : Hid (∀ j, (Value.slice ka K.length kc).ownBlock = some j → j < w11.heap.size) := hide (fun j e => (HR11.out.keys.lt j e).2)
              have HC0 : Hid (W.heap.size + 2 ≤ w11.heap.size) := hide HR11.out.big
              have x2 := HR12.out.box.cell 2
              have lB := HR12.out.box.lt
              have HW := hide hw12
              clear hb12 hC12 hw12 hb13 HR11 HT11 HW12
              go_upto_region 17 with fail
              show Code.wp _ _ _ _ (w11.alloc (.cells #[.int .i64 k, .string s, .slice a1 n1 c1, .slice a2 n2 c2] 36))
              rw [HW.out]
              clear HW
              go_upto_region 18 with (at_builtin; go_must (refine wpList_appS _ rfl (.tmp 53) (.tmp 55) rfl (W.heap.size + 2) (.slice ka K.length kc) K rfl HR13.out.keys w12.heap.size 1 key rfl HD13.out (by have := HKN.out; omega) (by have := HR13.out.big; simpa using this) ?_; intro v' w14 hown' hgrow hrow); have HR15 := hide (HR13.out.appK HRW.out HTX.out HKQ.out.1 hown' hgrow hrow); have HT15 := hide (appT hgrow hrow HT13.out); have hb14 := BoxC.kept HR13.out.box hgrow (fun e => (HR13.out.keys.off (show W.heap.size + 1 < W.heap.size + 2 by omega)) e.symm); have HC15 := hide ((BoxC.kept HC13.out hgrow (fun e => by have := HCB.out _ e.symm; omega)).other (show w11.heap.size ≠ W.heap.size + 1 by have := HC0.out; omega) 2 v'); obtain ⟨kb, kn2, kc2, hv7⟩ : ∃ a n c, v' = .slice a n c := (by obtain ⟨a, c, e, _⟩ := hown'.len; exact ⟨_, _, _, e⟩); subst hv7; have f7 := hb14.frozen 2; have c7 := hb14.cell 2; have l7 := hb14.lt; clear hown' hgrow hrow hb14)
              generalize hw15 : w14.setCell ⟨W.heap.size + 1, 2, none⟩ (.slice kb kn2 kc2) = w15 at *
              clear hw15 f7 c7 l7 x2 lB HR12 HR13 HT12 HT13 HC13 HD13 HCB HC0
              have hb16 := bel w15 (.cells #[.int .i64 k, .string s, .slice a1 n1 c1, .slice a2 n2 c2] 36)
              have HR16 := hide (HR15.out.below HRW.out hb16)
              have HT16 := hide (HT15.out.bel hb16)
              have HD16 := hide (BoxC.new w15 36 #[.int .i64 k, .string s, .slice a1 n1 c1, .slice a2 n2 c2])
              have x3 := HR15.out.box.cell 3
              have lB := HR15.out.box.lt
              have C0 := HC15.out.cell 0
              have C1 := HC15.out.cell 1
              have C2 := HC15.out.cell 2
              have C3 := HC15.out.cell 3
              have lC := HC15.out.lt
              clear hb16
              go_upto_region 19 with (at_builtin; go_must (refine wpList_appQ _ rfl (.tmp 59) (.tmp 61) rfl (W.heap.size + 2) (.slice la ln lc) M rfl HR16.out.own w15.heap.size 1 (k, s, .slice a1 n1 c1, .slice a2 n2 c2) rfl HD16.out ⟨rfl, rfl⟩ (by have := HR16.out.lenM; have := HR16.out.qs.le; have := HL.out; omega) (by have := HR16.out.big; simpa using this) ?_; intro v' w17 hown' hgrow hrow); have HR18 := hide (HR16.out.appM HRW.out HTX.out HT16.out HZ11.out HKQ.out.2 hown' hgrow hrow); have hb17 := BoxC.kept HR16.out.box hgrow (fun e => (HR16.out.own.off (show W.heap.size + 1 < W.heap.size + 2 by omega)) e.symm); obtain ⟨la7, ln7, lc7, hv7⟩ := hown'.slice; subst hv7; have f7 := hb17.frozen 3; have c7 := hb17.cell 3; have l7 := hb17.lt; clear hown' hgrow hrow hb17)
              clear HR15 HR16 HT15 HT16 HD16 HC15 x3 lB C0 C1 C2 C3 lC
              have HMO := hide (more_any _ _ R q11 d11 e11 b11 125 (by omega) ao cap T (HR18.out.qs.self (Below.refl _ _)))
              go_wp2_with fail
              refine HMO.out.mono ?_
              rintro r w20 ⟨m, q20, d20, e20, b20, rfl, hq20, hs20, he20, hm20⟩
              have HREL : Hid (ObjE T W R ao cap p (.bool m) w20) := hide ⟨m, _, _, _, _, _, q20, d20, e20, b20, rfl, fun h => ⟨Nat.lt_of_le_of_lt HR18.out.lenK (hm20 h), Nat.lt_of_le_of_lt HR18.out.lenM (hm20 h)⟩, HR18.out.read HRW.out hs20 hq20⟩
              have HMS : Hid (2 * (T.length - rdAt w20 R) + bN (.bool m) < 2 * (T.length - q) + 1) := hide (by
                rw [hs20.rq.at]
                have h1 := hs20.le
                have h2 := HQQ.out
                cases m
                · simp only [bN]
                  omega
                · have h3 := hm20 rfl
                  simp only [bN]
                  omega)
              clear hq20 hs20 he20 hm20
              go_wp2
              go_roundw
              case rel => exact HREL.out
              case measure =>
                rw [HAT.out]
                exact HMS.out
        · have dz : (e0 == 0) = false := by simpa using hz
          go_upto_region 20 with fail
          obtain ⟨la2, lc2, elv, htin⟩ := tin_list 6 ⟨#[]⟩ (.slice ka K.length kc) K (HS.out.keys.strs (Nat.le_refl _)) HS.out.own (Nat.le_refl _) (HS.out.trees.keep (S' := fun k => W.heap.size + 2 ≤ k) fun b hb _ => ⟨hb.1, rfl⟩)
          have HT := hide htin
          have HSZL := hide (sz_list 6 K (by have := HS.out.lenK; have := HS.out.qs.le; omega) (by have := HS.out.lenM; have := HS.out.qs.le; omega) HS.out.trees)
          clear elv htin
          have x0 := HS.out.box.cell 0
          have x1 := HS.out.box.cell 1
          have x2 := HS.out.box.cell 2
          have x3 := HS.out.box.cell 3
          have lB := HS.out.box.lt
          have y0 := HS.out.res.frozen 0
          have y1 := HS.out.res.frozen 1
          have y2 := HS.out.res.frozen 2
          have y3 := HS.out.res.frozen 3
          have z0 := HS.out.res.cell 0
          have z1 := HS.out.res.cell 1
          have z2 := HS.out.res.cell 2
          have z3 := HS.out.res.cell 3
          have lA := HS.out.res.lt
          go_wp2
          have z := (((HS.out.res.set 0 (.int .i64 6)).set 1 (.string ⟨#[]⟩)).set 2 (.slice ka K.length kc)).set 3 (.slice la ln lc)
          refine bodyPost_ret (results_rv rfl rfl z) rfl ?_
          exact ⟨(6, ⟨#[]⟩, .slice ka K.length kc, .slice la ln lc), _, rfl, HT.out.keep (fun b hb hlt => ⟨by have := hb; omega, heap4 (by have := hb; omega) (.int .i64 6) (.string ⟨#[]⟩) (.slice ka K.length kc) (.slice la ln lc)⟩), HSZL.out, q, d0, e0, b0, Nat.le_of_lt HS.out.far, HQE.out.fin (Below.refl _ _) HS.out.qs (.int .i64 6) (.string ⟨#[]⟩) (.slice ka K.length kc) (.slice la ln lc), fun h => absurd rfl h⟩
  · have x0 := HB3.out.cell 0
    have x1 := HB3.out.cell 1
    have x2 := HB3.out.cell 2
    have x3 := HB3.out.cell 3
    have lB := HB3.out.lt
    have y0 := HA3.out.frozen 0
    have y1 := HA3.out.frozen 1
    have y2 := HA3.out.frozen 2
    have y3 := HA3.out.frozen 3
    have z0 := HA3.out.cell 0
    have z1 := HA3.out.cell 1
    have z2 := HA3.out.cell 2
    have z3 := HA3.out.cell 3
    have lA := HA3.out.lt
    go_wp2
    have z := (((HA3.out.set 0 (.int .i64 6)).set 1 (.string ⟨#[]⟩)).set 2 (.slice none 0 0)).set 3 (.slice none 0 0)
    refine bodyPost_ret (results_rv rfl rfl z) rfl ?_
    exact ⟨(6, ⟨#[]⟩, .slice none 0 0, .slice none 0 0), _, rfl, tin_leaf _ _ _ _, sz_leaf _ _ _ (Nat.zero_le _), q, d3, e3, b3, HPQ.out, HQE.out.fin (Below.refl _ _) HQ3.out (.int .i64 6) (.string ⟨#[]⟩) (.slice none 0 0) (.slice none 0 0), fun h => absurd rfl h⟩

end Go.Proofs.YtbdpmpepmjpadaaGreatDoor

namespace Go.Proofs.YtbdpmpepmjpadaaGreatDoor
set_option linter.unusedVariables false
set_option linter.unusedSimpArgs false
set_option maxRecDepth 100000
open Go Go.RowKit Go.Shelf Go.Lib

set_option maxHeartbeats 16000000 in
theorem value_aux (R : Nat) (ao : Option Addr) (cap : Nat) (T : List Nat) : ∀ (n : Nat) (w W : World) (p : Nat) (d e b : Int), T.length - p < n → QS T w W R ao cap p d e b →
    Calls Tryz.prog 33 #[.pointer (some ⟨R, 0, none⟩)] W (QV T w R ao cap p e W.heap.size) := by
  intro n
  induction n with
  | zero => intro w W p d e b hn; omega
  | succ n ih =>
    intro w W p d e b hn h
    have HN := hide hn
    have HIH := hide ih
    have HL := hide h.tx.len
    have HRW := hide h.rq.lt
    have HQE := hide h
    have hb0 := bel W (.cells #[.int .i64 0, .string ⟨#[]⟩, .slice none 0 0, .slice none 0 0] 36)
    have hq0 := (h.self (Below.refl _ _)).below hb0
    have hx0 := BoxC.new W 36 #[.int .i64 0, .string ⟨#[]⟩, .slice none 0 0, .slice none 0 0]
    obtain ⟨w0, hw0⟩ : ∃ w0, W.alloc (.cells #[.int .i64 0, .string ⟨#[]⟩, .slice none 0 0, .slice none 0 0] 36) = w0 := ⟨_, rfl⟩
    rw [hw0] at hb0 hq0 hx0
    have HW0 := hide hw0
    have HQ0 := hide hq0
    have HX0 := hide hx0
    clear h hn ih hb0 hq0 hx0 hw0
    go_enter Tryz.func33, Tryz.ntmps33
    go_upto_region 1 with fail
    show Code.wp _ _ _ _ (W.alloc (.cells #[.int .i64 0, .string ⟨#[]⟩, .slice none 0 0, .slice none 0 0] 36))
    rw [HW0.out]
    clear HW0
    go_wp2_with fail
    refine (peek_q w0 w0 R p d e b ao cap T (HQ0.out.self (Below.refl _ _))).mono ?_
    rintro r w1 ⟨x, e1, b1, rfl, hq, h1, h2, hx⟩
    have HQ1 := hide (HQ0.out.go hq.rq hq.fr hq.le hq.db)
    have HX1 := hide (HX0.out.fr hq.fr (by have := HRW.out; omega) (by simp))
    have HX := hide hx
    have HAW : Hid (W.heap.size < w1.heap.size) := HX1.out.lt
    have c3 : w1.cell? ⟨R, 3, none⟩ = some (.int .i64 e1) := hq.rq.cell 3
    have lR : R < w1.heap.size := hq.rq.lt
    clear hq hx HQ0 HX0
    by_cases he : e1 = 0
    · subst he
      have LT : Hid (p < T.length) := by
        rcases HX.out with h | h
        · exact absurd rfl h.2
        · exact hide h.2.2.1
      have E0 : Hid (e = 0) := by
        rcases HX.out with h | h
        · exact absurd rfl h.2
        · exact hide h.2.1
      have HVX : Hid (∀ (wx : World) (qx : Nat) (dx ex bx : Int), p < qx → QS T wx wx R ao cap qx dx ex bx → Calls Tryz.prog 33 #[.pointer (some ⟨R, 0, none⟩)] wx (QV T wx R ao cap qx ex wx.heap.size)) := fun wx qx dx ex bx h1 h2 => HIH.out wx wx qx dx ex bx (by have := HN.out; have := LT.out; omega) h2
      clear HX HIH HN
      by_cases k123 : x = 123
      · subst k123
        go_wp2_with fail
        refine (object_any w1 w1 R p d b1 ao cap T (HQ1.out.self (Below.refl _ _)) LT.out HVX.out).mono ?_
        rintro r w2 ⟨x2, Tr, rfl, ht, hsz, q2, d2, e2, b2, hq2, hs2, he2⟩
        obtain ⟨k, s, a1, n1, c1, a2, n2, c2, rfl⟩ := tin_form ht
        simp only [vagg]
        have HX2 := hide (HX1.out.fr hs2.fr (by have := HRW.out; omega) (by simp))
        have HQ2 := hide (HQ1.out.go hs2.rq hs2.fr hs2.le hs2.db)
        have HT := hide ht
        have HZ := hide hsz
        have HP2 := hide hq2
        clear ht hsz hq2 hs2 he2 c3 lR
        have y0 := HX2.out.frozen 0
        have y1 := HX2.out.frozen 1
        have y2 := HX2.out.frozen 2
        have y3 := HX2.out.frozen 3
        have z0 := HX2.out.cell 0
        have z1 := HX2.out.cell 1
        have z2 := HX2.out.cell 2
        have z3 := HX2.out.cell 3
        have lA := HX2.out.lt
        go_wp2
        have z := (((HX2.out.set 0 (.int .i64 k)).set 1 (.string s)).set 2 (.slice a1 n1 c1)).set 3 (.slice a2 n2 c2)
        refine bodyPost_ret (results_rv rfl rfl z) rfl ?_
        exact ⟨(k, s, .slice a1 n1 c1, .slice a2 n2 c2), _, rfl, HT.out.keep (fun b hb hlt => ⟨by have := HAW.out; have := hb; show W.heap.size ≤ b; omega, heap4 (by have := HAW.out; have := hb; show b ≠ W.heap.size; omega) (.int .i64 k) (.string s) (.slice a1 n1 c1) (.slice a2 n2 c2)⟩), HZ.out, q2, d2, e2, b2, HP2.out, HQE.out.fin (Below.refl _ _) HQ2.out (.int .i64 k) (.string s) (.slice a1 n1 c1) (.slice a2 n2 c2), fun h => absurd E0.out h⟩
      have d123 : (x == 123) = false := by simpa using k123
      by_cases k91 : x = 91
      · subst k91
        go_wp2_with fail
        refine (array_any w1 w1 R p d b1 ao cap T (HQ1.out.self (Below.refl _ _)) LT.out HVX.out).mono ?_
        rintro r w2 ⟨x2, Tr, rfl, ht, hsz, q2, d2, e2, b2, hq2, hs2, he2⟩
        obtain ⟨k, s, a1, n1, c1, a2, n2, c2, rfl⟩ := tin_form ht
        simp only [vagg]
        have HX2 := hide (HX1.out.fr hs2.fr (by have := HRW.out; omega) (by simp))
        have HQ2 := hide (HQ1.out.go hs2.rq hs2.fr hs2.le hs2.db)
        have HT := hide ht
        have HZ := hide hsz
        have HP2 := hide hq2
        clear ht hsz hq2 hs2 he2 c3 lR
        have y0 := HX2.out.frozen 0
        have y1 := HX2.out.frozen 1
        have y2 := HX2.out.frozen 2
        have y3 := HX2.out.frozen 3
        have z0 := HX2.out.cell 0
        have z1 := HX2.out.cell 1
        have z2 := HX2.out.cell 2
        have z3 := HX2.out.cell 3
        have lA := HX2.out.lt
        go_wp2
        have z := (((HX2.out.set 0 (.int .i64 k)).set 1 (.string s)).set 2 (.slice a1 n1 c1)).set 3 (.slice a2 n2 c2)
        refine bodyPost_ret (results_rv rfl rfl z) rfl ?_
        exact ⟨(k, s, .slice a1 n1 c1, .slice a2 n2 c2), _, rfl, HT.out.keep (fun b hb hlt => ⟨by have := HAW.out; have := hb; show W.heap.size ≤ b; omega, heap4 (by have := HAW.out; have := hb; show b ≠ W.heap.size; omega) (.int .i64 k) (.string s) (.slice a1 n1 c1) (.slice a2 n2 c2)⟩), HZ.out, q2, d2, e2, b2, HP2.out, HQE.out.fin (Below.refl _ _) HQ2.out (.int .i64 k) (.string s) (.slice a1 n1 c1) (.slice a2 n2 c2), fun h => absurd E0.out h⟩
      have d91 : (x == 91) = false := by simpa using k91
      by_cases k34 : x = 34
      · subst k34
        go_wp2_with fail
        refine (text_any w1 w1 R p d 0 b1 ao cap T (HQ1.out.self (Below.refl _ _))).mono ?_
        rintro r w2 ⟨s, ⟨rfl, hss⟩, q2, d2, e2, b2, hq2, hs2, he2⟩
        have HX2 := hide (HX1.out.fr hs2.fr (by have := HRW.out; omega) (by simp))
        have HQ2 := hide (HQ1.out.go hs2.rq hs2.fr hs2.le hs2.db)
        have HSS := hide hss
        have HP2 := hide hq2
        clear hss hq2 hs2 he2 c3 lR
        have y0 := HX2.out.frozen 0
        have y1 := HX2.out.frozen 1
        have y2 := HX2.out.frozen 2
        have y3 := HX2.out.frozen 3
        have z0 := HX2.out.cell 0
        have z1 := HX2.out.cell 1
        have z2 := HX2.out.cell 2
        have z3 := HX2.out.cell 3
        have lA := HX2.out.lt
        go_wp2
        have z := (((HX2.out.set 0 (.int .i64 4)).set 1 (.string s)).set 2 (.slice none 0 0)).set 3 (.slice none 0 0)
        refine bodyPost_ret (results_rv rfl rfl z) rfl ?_
        exact ⟨(4, s, .slice none 0 0, .slice none 0 0), _, rfl, tin_leaf _ _ _ _, sz_leaf _ _ _ HSS.out, q2, d2, e2, b2, HP2.out, HQE.out.fin (Below.refl _ _) HQ2.out (.int .i64 4) (.string s) (.slice none 0 0) (.slice none 0 0), fun h => absurd E0.out h⟩
      have d34 : (x == 34) = false := by simpa using k34
      by_cases k116 : x = 116
      · subst k116
        go_wp2_with fail
        refine (word_true w1 w1 R p d 0 b1 ao cap T (HQ1.out.self (Below.refl _ _))).mono ?_
        rintro r w2 ⟨x2, Tr, rfl, ht, hsz, q2, d2, e2, b2, hq2, hs2, he2⟩
        obtain ⟨k, s, a1, n1, c1, a2, n2, c2, rfl⟩ := tin_form ht
        simp only [vagg]
        have HX2 := hide (HX1.out.fr hs2.fr (by have := HRW.out; omega) (by simp))
        have HQ2 := hide (HQ1.out.go hs2.rq hs2.fr hs2.le hs2.db)
        have HT := hide ht
        have HZ := hide hsz
        have HP2 := hide hq2
        clear ht hsz hq2 hs2 he2 c3 lR
        have y0 := HX2.out.frozen 0
        have y1 := HX2.out.frozen 1
        have y2 := HX2.out.frozen 2
        have y3 := HX2.out.frozen 3
        have z0 := HX2.out.cell 0
        have z1 := HX2.out.cell 1
        have z2 := HX2.out.cell 2
        have z3 := HX2.out.cell 3
        have lA := HX2.out.lt
        go_wp2
        have z := (((HX2.out.set 0 (.int .i64 k)).set 1 (.string s)).set 2 (.slice a1 n1 c1)).set 3 (.slice a2 n2 c2)
        refine bodyPost_ret (results_rv rfl rfl z) rfl ?_
        exact ⟨(k, s, .slice a1 n1 c1, .slice a2 n2 c2), _, rfl, HT.out.keep (fun b hb hlt => ⟨by have := HAW.out; have := hb; show W.heap.size ≤ b; omega, heap4 (by have := HAW.out; have := hb; show b ≠ W.heap.size; omega) (.int .i64 k) (.string s) (.slice a1 n1 c1) (.slice a2 n2 c2)⟩), HZ.out, q2, d2, e2, b2, HP2.out, HQE.out.fin (Below.refl _ _) HQ2.out (.int .i64 k) (.string s) (.slice a1 n1 c1) (.slice a2 n2 c2), fun h => absurd E0.out h⟩
      have d116 : (x == 116) = false := by simpa using k116
      by_cases k102 : x = 102
      · subst k102
        go_wp2_with fail
        refine (word_false w1 w1 R p d 0 b1 ao cap T (HQ1.out.self (Below.refl _ _))).mono ?_
        rintro r w2 ⟨x2, Tr, rfl, ht, hsz, q2, d2, e2, b2, hq2, hs2, he2⟩
        obtain ⟨k, s, a1, n1, c1, a2, n2, c2, rfl⟩ := tin_form ht
        simp only [vagg]
        have HX2 := hide (HX1.out.fr hs2.fr (by have := HRW.out; omega) (by simp))
        have HQ2 := hide (HQ1.out.go hs2.rq hs2.fr hs2.le hs2.db)
        have HT := hide ht
        have HZ := hide hsz
        have HP2 := hide hq2
        clear ht hsz hq2 hs2 he2 c3 lR
        have y0 := HX2.out.frozen 0
        have y1 := HX2.out.frozen 1
        have y2 := HX2.out.frozen 2
        have y3 := HX2.out.frozen 3
        have z0 := HX2.out.cell 0
        have z1 := HX2.out.cell 1
        have z2 := HX2.out.cell 2
        have z3 := HX2.out.cell 3
        have lA := HX2.out.lt
        go_wp2
        have z := (((HX2.out.set 0 (.int .i64 k)).set 1 (.string s)).set 2 (.slice a1 n1 c1)).set 3 (.slice a2 n2 c2)
        refine bodyPost_ret (results_rv rfl rfl z) rfl ?_
        exact ⟨(k, s, .slice a1 n1 c1, .slice a2 n2 c2), _, rfl, HT.out.keep (fun b hb hlt => ⟨by have := HAW.out; have := hb; show W.heap.size ≤ b; omega, heap4 (by have := HAW.out; have := hb; show b ≠ W.heap.size; omega) (.int .i64 k) (.string s) (.slice a1 n1 c1) (.slice a2 n2 c2)⟩), HZ.out, q2, d2, e2, b2, HP2.out, HQE.out.fin (Below.refl _ _) HQ2.out (.int .i64 k) (.string s) (.slice a1 n1 c1) (.slice a2 n2 c2), fun h => absurd E0.out h⟩
      have d102 : (x == 102) = false := by simpa using k102
      by_cases k110 : x = 110
      · subst k110
        go_wp2_with fail
        refine (word_null w1 w1 R p d 0 b1 ao cap T (HQ1.out.self (Below.refl _ _))).mono ?_
        rintro r w2 ⟨x2, Tr, rfl, ht, hsz, q2, d2, e2, b2, hq2, hs2, he2⟩
        obtain ⟨k, s, a1, n1, c1, a2, n2, c2, rfl⟩ := tin_form ht
        simp only [vagg]
        have HX2 := hide (HX1.out.fr hs2.fr (by have := HRW.out; omega) (by simp))
        have HQ2 := hide (HQ1.out.go hs2.rq hs2.fr hs2.le hs2.db)
        have HT := hide ht
        have HZ := hide hsz
        have HP2 := hide hq2
        clear ht hsz hq2 hs2 he2 c3 lR
        have y0 := HX2.out.frozen 0
        have y1 := HX2.out.frozen 1
        have y2 := HX2.out.frozen 2
        have y3 := HX2.out.frozen 3
        have z0 := HX2.out.cell 0
        have z1 := HX2.out.cell 1
        have z2 := HX2.out.cell 2
        have z3 := HX2.out.cell 3
        have lA := HX2.out.lt
        go_wp2
        have z := (((HX2.out.set 0 (.int .i64 k)).set 1 (.string s)).set 2 (.slice a1 n1 c1)).set 3 (.slice a2 n2 c2)
        refine bodyPost_ret (results_rv rfl rfl z) rfl ?_
        exact ⟨(k, s, .slice a1 n1 c1, .slice a2 n2 c2), _, rfl, HT.out.keep (fun b hb hlt => ⟨by have := HAW.out; have := hb; show W.heap.size ≤ b; omega, heap4 (by have := HAW.out; have := hb; show b ≠ W.heap.size; omega) (.int .i64 k) (.string s) (.slice a1 n1 c1) (.slice a2 n2 c2)⟩), HZ.out, q2, d2, e2, b2, HP2.out, HQE.out.fin (Below.refl _ _) HQ2.out (.int .i64 k) (.string s) (.slice a1 n1 c1) (.slice a2 n2 c2), fun h => absurd E0.out h⟩
      have d110 : (x == 110) = false := by simpa using k110
      go_wp2_with fail
      refine (number_any w1 w1 R p d 0 b1 ao cap T (HQ1.out.self (Below.refl _ _))).mono ?_
      rintro r w2 ⟨x2, Tr, rfl, ht, hsz, q2, d2, e2, b2, hq2, hs2, he2⟩
      obtain ⟨k, s, a1, n1, c1, a2, n2, c2, rfl⟩ := tin_form ht
      simp only [vagg]
      have HX2 := hide (HX1.out.fr hs2.fr (by have := HRW.out; omega) (by simp))
      have HQ2 := hide (HQ1.out.go hs2.rq hs2.fr hs2.le hs2.db)
      have HT := hide ht
      have HZ := hide hsz
      have HP2 := hide hq2
      clear ht hsz hq2 hs2 he2 c3 lR
      have y0 := HX2.out.frozen 0
      have y1 := HX2.out.frozen 1
      have y2 := HX2.out.frozen 2
      have y3 := HX2.out.frozen 3
      have z0 := HX2.out.cell 0
      have z1 := HX2.out.cell 1
      have z2 := HX2.out.cell 2
      have z3 := HX2.out.cell 3
      have lA := HX2.out.lt
      go_wp2
      have z := (((HX2.out.set 0 (.int .i64 k)).set 1 (.string s)).set 2 (.slice a1 n1 c1)).set 3 (.slice a2 n2 c2)
      refine bodyPost_ret (results_rv rfl rfl z) rfl ?_
      exact ⟨(k, s, .slice a1 n1 c1, .slice a2 n2 c2), _, rfl, HT.out.keep (fun b hb hlt => ⟨by have := HAW.out; have := hb; show W.heap.size ≤ b; omega, heap4 (by have := HAW.out; have := hb; show b ≠ W.heap.size; omega) (.int .i64 k) (.string s) (.slice a1 n1 c1) (.slice a2 n2 c2)⟩), HZ.out, q2, d2, e2, b2, HP2.out, HQE.out.fin (Below.refl _ _) HQ2.out (.int .i64 k) (.string s) (.slice a1 n1 c1) (.slice a2 n2 c2), fun h => absurd E0.out h⟩
    · have dz : (e1 != 0) = true := by simpa using he
      have HZ := hide he
      clear he HX
      have y0 := HX1.out.frozen 0
      have y1 := HX1.out.frozen 1
      have y2 := HX1.out.frozen 2
      have y3 := HX1.out.frozen 3
      have z0 := HX1.out.cell 0
      have z1 := HX1.out.cell 1
      have z2 := HX1.out.cell 2
      have z3 := HX1.out.cell 3
      have lA := HX1.out.lt
      go_wp2
      have z := (((HX1.out.set 0 (.int .i64 0)).set 1 (.string ⟨#[]⟩)).set 2 (.slice none 0 0)).set 3 (.slice none 0 0)
      refine bodyPost_ret (results_rv rfl rfl z) rfl ?_
      exact ⟨(0, ⟨#[]⟩, .slice none 0 0, .slice none 0 0), _, rfl, tin_leaf _ _ _ _, sz_leaf _ _ _ (Nat.zero_le _), p, d, e1, b1, Nat.le_refl _, HQE.out.fin (Below.refl _ _) HQ1.out (.int .i64 0) (.string ⟨#[]⟩) (.slice none 0 0) (.slice none 0 0), fun _ => HZ.out⟩

theorem value_any (w W : World) (R p : Nat) (d e b : Int) (ao : Option Addr) (cap : Nat) (T : List Nat) (h : QS T w W R ao cap p d e b) :
    Calls Tryz.prog 33 #[.pointer (some ⟨R, 0, none⟩)] W (QV T w R ao cap p e W.heap.size) := value_aux R ao cap T (T.length - p + 1) w W p d e b (by omega) h

end Go.Proofs.YtbdpmpepmjpadaaGreatDoor

namespace Go.Proofs.YtbdpmpepmjpadaaGreatDoor
set_option linter.unusedVariables false
set_option linter.unusedSimpArgs false
set_option maxRecDepth 100000
open Go Go.RowKit Go.Shelf Go.Lib

theorem results_rv3 {fn : Func} {i k j : Tmp} (h : fn.results = #[.cell i 36, .tmp k, .tmp j]) {tmps : Array Value} {W : World} {b : Nat} {x y z u : Value} {t : TypeId} {ev fv : Value} (hp : tmps.getD i undef = .pointer (some ⟨b, 0, none⟩)) (he : tmps.getD k undef = ev) (hf : tmps.getD j undef = fv) (T : BoxC W b t #[x, y, z, u]) :
    (results fn tmps).run Tryz.prog W = .ok (.tuple #[.agg #[x, y, z, u], ev, fv]) W := by
  have c0 : W.cell? ⟨b, 0, none⟩ = some x := T.cell 0
  have c1 : W.cell? ⟨b, 1, none⟩ = some y := T.cell 1
  have c2 : W.cell? ⟨b, 2, none⟩ = some z := T.cell 2
  have c3 : W.cell? ⟨b, 3, none⟩ = some u := T.cell 3
  have hp' : tmps[i]?.getD undef = .pointer (some ⟨b, 0, none⟩) := by simpa using hp
  have he' : tmps[k]?.getD undef = ev := by simpa using he
  have hf' : tmps[j]?.getD undef = fv := by simpa using hf
  simp [results, h, hp', he', hf', go_sem, c0, c1, c2, c3]
/-- What Parse answers, whatever its text: some tree, and two numbers. -/
def RParR (T : List Nat) (w : World) (r : Ending) (w' : World) : Prop :=
  ∃ (x : JC) (Tr : JT) (a e : Int), r = .returned (.tuple #[vagg x, .int .i64 a, .int .i64 e]) ∧ TIn w' (fun b => w.heap.size ≤ b) x Tr ∧ SzT T.length Tr ∧ Below w.heap.size w w'

set_option maxHeartbeats 16000000 in
theorem rparse_any (w : World) (ao : Option Addr) (cap : Nat) (T : List Nat) (hby : Byts w (.slice ao T.length cap) T) (hlen : T.length ≤ 1000000) (hcap : T.length ≤ cap) (hao : ∀ a, ao = some a → a.block < w.heap.size)
    (hval : ∀ W, Below w.heap.size w W → Calls Tryz.prog 31 #[.slice ao T.length cap] W fun r w' => ∃ a er : Int, r = .returned (.tuple #[.int .i64 a, .int .i64 er]) ∧ Below W.heap.size W w') :
    Calls Tryz.prog 11 #[.slice ao T.length cap] w (RParR T w) := by
  have hb0 := bel w (.cells #[.int .i64 0, .string ⟨#[]⟩, .slice none 0 0, .slice none 0 0] 36)
  have hx0 := BoxC.new w 36 #[.int .i64 0, .string ⟨#[]⟩, .slice none 0 0, .slice none 0 0]
  obtain ⟨w0, hw0⟩ : ∃ w0, w.alloc (.cells #[.int .i64 0, .string ⟨#[]⟩, .slice none 0 0, .slice none 0 0] 36) = w0 := ⟨_, rfl⟩
  rw [hw0] at hb0 hx0
  have HW0 := hide hw0
  have HB0 := hide hb0
  have HX0 := hide hx0
  have HV := hide (hval w0 hb0)
  have HBY := hide hby
  have HL := hide hlen
  have HC := hide hcap
  have HAO := hide hao
  clear hb0 hx0 hw0 hval hby hlen hcap hao
  go_enter Tryz.func11, Tryz.ntmps11
  go_upto_region 1 with fail
  show Code.wp _ _ _ _ (w.alloc (.cells #[.int .i64 0, .string ⟨#[]⟩, .slice none 0 0, .slice none 0 0] 36))
  rw [HW0.out]
  clear HW0
  go_wp2_with fail
  refine HV.out.mono ?_
  rintro r w1 ⟨a, er, rfl, hb1⟩
  have HB1 := hide (HB0.out.trans (hb1.mono HB0.out.size))
  have HX1 := hide (HX0.out.below hb1)
  clear hb1 HB0 HX0 HV
  by_cases he : er = 0
  · subst he
    have hb2 := bel w1 (.cells #[.slice ao T.length cap, .int .i64 0, .int .i64 0, .int .i64 0, .int .i64 0] 80)
    have hr2 := BoxC.new w1 80 #[.slice ao T.length cap, .int .i64 0, .int .i64 0, .int .i64 0, .int .i64 0]
    obtain ⟨w2, hw2⟩ : ∃ w2, w1.alloc (.cells #[.slice ao T.length cap, .int .i64 0, .int .i64 0, .int .i64 0, .int .i64 0] 80) = w2 := ⟨_, rfl⟩
    rw [hw2] at hb2 hr2
    have HR2 := hide hr2
    have HX2 := hide (HX1.out.below hb2)
    have HB2 := hide (HB1.out.trans (hb2.mono HB1.out.size))
    have HQ2 : Hid (QS T w2 w2 w1.heap.size ao cap 0 0 0 0) := hide ⟨hr2, ⟨HBY.out.below HB2.out, fun a ha => by have := HAO.out a ha; have := HB1.out.size; omega, HL.out, HC.out⟩, Fr.refl _ _ _, Nat.zero_le _, by refine ⟨?_, ?_, fun _ => ⟨?_, ?_⟩⟩ <;> omega⟩
    have HW2 := hide hw2
    have hRA : ¬ w1.heap.size = w.heap.size := by have := HX1.out.lt; omega
    have hRB : ¬ w.heap.size = w1.heap.size := by have := HX1.out.lt; omega
    have HR9 : Hid (w1.heap.size < w2.heap.size) := hide hr2.lt
    clear hb2 hr2 hw2
    go_upto_region 5 with fail
    show Code.wp _ _ _ _ (w1.alloc (.cells #[.slice ao T.length cap, .int .i64 0, .int .i64 0, .int .i64 0, .int .i64 0] 80))
    rw [HW2.out]
    clear HW2
    go_wp2_with fail
    refine (blank_q w2 w2 w1.heap.size 0 0 0 0 ao cap T HQ2.out).mono ?_
    rintro r w3 ⟨rfl, q3, hq3, hs3⟩
    have HQ3 := hide hs3
    clear hq3 hs3 HQ2 HR2
    go_wp2_with fail
    refine (value_any w3 w3 w1.heap.size q3 0 0 0 ao cap T (HQ3.out.self (Below.refl _ _))).mono ?_
    rintro r w4 ⟨x, Tr, rfl, ht, hz, q4, d4, e4, b4, hq4, hs4, he4⟩
    obtain ⟨k, s, a1, n1, c1, a2, n2, c2, rfl⟩ := tin_form ht
    simp only [vagg]
    have HQ4 := hide (HQ3.out.go hs4.rq hs4.fr hs4.le hs4.db)
    have HT4 : Hid (TIn w4 (fun b => w2.heap.size ≤ b) (k, s, .slice a1 n1 c1, .slice a2 n2 c2) Tr) := hide (ht.keep fun b hb hlt => ⟨Nat.le_trans HQ3.out.fr.size hb, rfl⟩)
    have HZ4 := hide hz
    clear ht hz hq4 hs4 he4 HQ3
    have hb5 := bel w4 (.cells #[.int .i64 k, .string s, .slice a1 n1 c1, .slice a2 n2 c2] 36)
    have hd5 := BoxC.new w4 36 #[.int .i64 k, .string s, .slice a1 n1 c1, .slice a2 n2 c2]
    obtain ⟨w5, hw5⟩ : ∃ w5, w4.alloc (.cells #[.int .i64 k, .string s, .slice a1 n1 c1, .slice a2 n2 c2] 36) = w5 := ⟨_, rfl⟩
    rw [hw5] at hb5 hd5
    have HW5 := hide hw5
    have HQ5 := hide (HQ4.out.below hb5)
    have HT5 := hide (HT4.out.bel hb5)
    have HD5 := hide hd5
    have HRD : Hid (w1.heap.size < w2.heap.size ∧ w2.heap.size ≤ w4.heap.size) := hide ⟨by have := HR9.out; omega, HQ4.out.fr.size⟩
    clear hb5 hd5 hw5 HQ4 HT4
    go_upto_region 7 with fail
    show Code.wp _ _ _ _ (w4.alloc (.cells #[.int .i64 k, .string s, .slice a1 n1 c1, .slice a2 n2 c2] 36))
    rw [HW5.out]
    clear HW5
    go_wp2_with fail
    refine (blank_q w5 w5 w1.heap.size q4 d4 e4 b4 ao cap T (HQ5.out.self (Below.refl _ _))).mono ?_
    rintro r w6 ⟨rfl, q6, hq6, hs6⟩
    have HQ6 := hide (HQ5.out.go hs6.rq hs6.fr hs6.le hs6.db)
    have HT6 := hide (HT5.out.keep (S' := fun b => w2.heap.size ≤ b) fun b hb hlt => ⟨hb, hs6.fr.block hlt (by have := HRD.out; have := hb; omega) (by simp)⟩)
    have HD6 := hide (HD5.out.fr hs6.fr (by have := HRD.out; omega) (by simp))
    clear hq6 hs6 HQ5 HT5 HD5
    have c3 : w6.cell? ⟨w1.heap.size, 3, none⟩ = some (.int .i64 e4) := HQ6.out.rq.cell 3
    have c1_ : w6.cell? ⟨w1.heap.size, 1, none⟩ = some (.int .i64 (q6 : Int)) := HQ6.out.rq.cell 1
    have lR6 := HQ6.out.rq.lt
    by_cases hz : e4 = 0
    · subst hz
      by_cases hlt : (q6 : Int) < (T.length : Int)
      · go_wp2_with fail
        refine (fail_q w2 w6 w1.heap.size q6 d4 0 b4 12 _ ao cap T HQ6.out (by omega)).mono ?_
        rintro r w7 ⟨e7, b7, rfl, hq7, he7⟩
        have HQ7 := hide hq7
        have dm : (e7 != 0) = true := by simpa using he7
        clear hq7 he7 c3 c1_ lR6 HD6 HT6
        have HXE := hide (HX2.out.fr HQ7.out.fr hRB (by simp))
        have y0 := HXE.out.frozen 0
        have y1 := HXE.out.frozen 1
        have y2 := HXE.out.frozen 2
        have y3 := HXE.out.frozen 3
        have z0 := HXE.out.cell 0
        have z1 := HXE.out.cell 1
        have z2 := HXE.out.cell 2
        have z3 := HXE.out.cell 3
        have lA := HXE.out.lt
        have k3 : w7.cell? ⟨w1.heap.size, 3, none⟩ = some (.int .i64 e7) := HQ7.out.rq.cell 3
        have k4 : w7.cell? ⟨w1.heap.size, 4, none⟩ = some (.int .i64 b7) := HQ7.out.rq.cell 4
        have lR := HQ7.out.rq.lt
        have HBE : Hid (Below w.heap.size w w7) := hide (HB2.out.trans (HQ7.out.fr.below HB1.out.size (by simp) HB2.out.size))
        go_upto_region 11 with fail
        go_region_with (fail)
        all_goals
          go_wp2
          have z := ((((HXE.out.set 0 (.int .i64 0)).set 1 (.string ⟨#[]⟩)).set 2 (.slice none 0 0)).set 3 (.slice none 0 0)).below (Below.refl _ _).drew
          refine bodyPost_ret (results_rv3 rfl rfl rfl rfl z) rfl ?_
          exact ⟨(0, ⟨#[]⟩, .slice none 0 0, .slice none 0 0), _, _, _, rfl, tin_leaf _ _ _ _, sz_leaf _ _ _ (Nat.zero_le _), (below4 HBE.out (Nat.le_refl _) (.int .i64 0) (.string ⟨#[]⟩) (.slice none 0 0) (.slice none 0 0)).drew⟩
      · have HXE := hide (HX2.out.fr HQ6.out.fr hRB (by simp))
        have y0 := HXE.out.frozen 0
        have y1 := HXE.out.frozen 1
        have y2 := HXE.out.frozen 2
        have y3 := HXE.out.frozen 3
        have z0 := HXE.out.cell 0
        have z1 := HXE.out.cell 1
        have z2 := HXE.out.cell 2
        have z3 := HXE.out.cell 3
        have lA := HXE.out.lt
        have u0_ := HD6.out.cell 0
        have u1_ := HD6.out.cell 1
        have u2_ := HD6.out.cell 2
        have u3_ := HD6.out.cell 3
        have lD := HD6.out.lt
        have HBE : Hid (Below w.heap.size w w6) := hide (HB2.out.trans (HQ6.out.fr.below HB1.out.size (by simp) HB2.out.size))
        go_wp2
        have z := (((HXE.out.set 0 (.int .i64 k)).set 1 (.string s)).set 2 (.slice a1 n1 c1)).set 3 (.slice a2 n2 c2)
        refine bodyPost_ret (results_rv3 rfl rfl rfl rfl z) rfl ?_
        exact ⟨(k, s, .slice a1 n1 c1, .slice a2 n2 c2), _, _, _, rfl, HT6.out.keep (fun b hb hlt => ⟨by have := HB2.out.size; have := hb; show w.heap.size ≤ b; omega, heap4 (by have := HRD.out; have := HB1.out.size; have := hb; show b ≠ w.heap.size; omega) (.int .i64 k) (.string s) (.slice a1 n1 c1) (.slice a2 n2 c2)⟩), HZ4.out, below4 HBE.out (Nat.le_refl _) (.int .i64 k) (.string s) (.slice a1 n1 c1) (.slice a2 n2 c2)⟩
    · have dq : (e4 == 0) = false := by simpa using hz
      have dm : (e4 != 0) = true := by simpa using hz
      clear hz c3 c1_ lR6 HD6 HT6
      have c3 : w6.cell? ⟨w1.heap.size, 3, none⟩ = some (.int .i64 e4) := HQ6.out.rq.cell 3
      have HXE := hide (HX2.out.fr HQ6.out.fr hRB (by simp))
      have y0 := HXE.out.frozen 0
      have y1 := HXE.out.frozen 1
      have y2 := HXE.out.frozen 2
      have y3 := HXE.out.frozen 3
      have z0 := HXE.out.cell 0
      have z1 := HXE.out.cell 1
      have z2 := HXE.out.cell 2
      have z3 := HXE.out.cell 3
      have lA := HXE.out.lt
      have k3 : w6.cell? ⟨w1.heap.size, 3, none⟩ = some (.int .i64 e4) := HQ6.out.rq.cell 3
      have k4 : w6.cell? ⟨w1.heap.size, 4, none⟩ = some (.int .i64 b4) := HQ6.out.rq.cell 4
      have lR := HQ6.out.rq.lt
      have HBE : Hid (Below w.heap.size w w6) := hide (HB2.out.trans (HQ6.out.fr.below HB1.out.size (by simp) HB2.out.size))
      go_upto_region 11 with fail
      go_region_with (fail)
      all_goals
        go_wp2
        have z := ((((HXE.out.set 0 (.int .i64 0)).set 1 (.string ⟨#[]⟩)).set 2 (.slice none 0 0)).set 3 (.slice none 0 0)).below (Below.refl _ _).drew
        refine bodyPost_ret (results_rv3 rfl rfl rfl rfl z) rfl ?_
        exact ⟨(0, ⟨#[]⟩, .slice none 0 0, .slice none 0 0), _, _, _, rfl, tin_leaf _ _ _ _, sz_leaf _ _ _ (Nat.zero_le _), (below4 HBE.out (Nat.le_refl _) (.int .i64 0) (.string ⟨#[]⟩) (.slice none 0 0) (.slice none 0 0)).drew⟩
  · have dz : (er != 0) = true := by simpa using he
    clear he
    have y0 := HX1.out.frozen 0
    have y1 := HX1.out.frozen 1
    have y2 := HX1.out.frozen 2
    have y3 := HX1.out.frozen 3
    have z0 := HX1.out.cell 0
    have z1 := HX1.out.cell 1
    have z2 := HX1.out.cell 2
    have z3 := HX1.out.cell 3
    have lA := HX1.out.lt
    go_wp2
    have z := (((HX1.out.set 0 (.int .i64 0)).set 1 (.string ⟨#[]⟩)).set 2 (.slice none 0 0)).set 3 (.slice none 0 0)
    refine bodyPost_ret (results_rv3 rfl rfl rfl rfl z) rfl ?_
    exact ⟨(0, ⟨#[]⟩, .slice none 0 0, .slice none 0 0), _, _, _, rfl, tin_leaf _ _ _ _, sz_leaf _ _ _ (Nat.zero_le _), below4 HB1.out (Nat.le_refl _) (.int .i64 0) (.string ⟨#[]⟩) (.slice none 0 0) (.slice none 0 0)⟩

end Go.Proofs.YtbdpmpepmjpadaaGreatDoor

namespace Go.Proofs.YtbdpmpepmjpadaaGreatDoor
set_option linter.unusedVariables false
set_option linter.unusedSimpArgs false
open Go Go.RowKit Go.Shelf Go.Lib

/-- A number moved between two bounds. -/
def clamp (n hi : Int) : Int := if n < 0 then 0 else if n > hi then hi else n

end Go.Proofs.YtbdpmpepmjpadaaGreatDoor

namespace Go.Proofs.YtbdpmpepmjpadaaGreatDoor
set_option linter.unusedVariables false
set_option linter.unusedSimpArgs false
open Go Go.RowKit Go.Shelf Go.Lib

/-- The first byte 10 or 13 from a place on, or the end. -/
def IsEnd (T : List Nat) (f e : Nat) : Prop := f ≤ e ∧ e ≤ T.length ∧ (∀ j, f ≤ j → j < e → nth T j ≠ 10 ∧ nth T j ≠ 13) ∧ (e < T.length → nth T e = 10 ∨ nth T e = 13)

end Go.Proofs.YtbdpmpepmjpadaaGreatDoor

namespace Go.Proofs.YtbdpmpepmjpadaaGreatDoor
set_option linter.unusedVariables false
set_option linter.unusedSimpArgs false
open Go Go.RowKit Go.Shelf Go.Lib

theorem ownsRow_keep {W W' : World} {base : Nat} {e : TypeId} {size : Nat} {v : Value} {n : Nat} {xs : List Value} (h : W.ownsRow base e size v n xs) (hb : Below W.heap.size W W') : W'.ownsRow base e size v n xs := by
  refine ⟨h.1, ?_⟩
  rcases h.2 with hn | ⟨g2, cap, cur, hv, h1, h2, h3⟩
  · exact .inl hn
  · exact .inr ⟨g2, cap, cur, hv, h1, (hb.block g2 (Array.getElem?_eq_some_iff.1 h2).1).trans h2, h3⟩
theorem one_cell {k : IntKind} {x : Int} : ∀ u ∈ [Value.int k x], u.oneCell' = true := fun u hu => by
  rw [List.mem_singleton.1 hu]; rfl
theorem infoI64 : (Tryz.prog.info? 3).map (fun i => (i.zero, i.size, i.bytes)) = some (some (.int .i64 0), 1, 8) := by kernel_rfl

def nthI (L : List Int) (i : Nat) : Int := L[i]?.getD 0
def icells (L : List Int) : List Value := L.map (fun z : Int => Value.int .i64 z)
theorem icells_length (L : List Int) : (icells L).length = L.length := by simp [icells]
theorem nthI_eq {L : List Int} {j : Nat} (hj : j < L.length) : nthI L j = L[j] := by simp [nthI, List.getElem?_eq_getElem hj]

/-- A slice of ints: it holds these. -/
def IntsIn (W : World) (v : Value) (L : List Int) : Prop := ∃ ao cap, v = .slice ao L.length cap ∧ ∀ j, j < L.length → ∃ b off, ao = some ⟨b, off, none⟩ ∧ W.cell? ⟨b, off + j, none⟩ = some (.int .i64 (nthI L j))
theorem IntsIn.below {W W' : World} {v : Value} {L : List Int} (h : IntsIn W v L) (hb : Below W.heap.size W W') : IntsIn W' v L := by
  obtain ⟨ao, cap, h1, h3⟩ := h
  refine ⟨ao, cap, h1, fun j hj => ?_⟩
  obtain ⟨b, off, h4, h5⟩ := h3 j hj
  exact ⟨b, off, h4, (hb.cell (p := ⟨b, off + j, none⟩) (block_lt h5)).trans h5⟩

/-- Ints that the call has gathered in memory of its own. -/
def OwnI (n₀ : Nat) (W : World) (v : Value) (L : List Int) : Prop := W.ownsRow n₀ 3 1 v L.length (icells L)
theorem OwnI.ints {n₀ : Nat} {W : World} {v : Value} {L : List Int} (h : OwnI n₀ W v L) : IntsIn W v L := by
  rcases h.2 with ⟨rfl, h0⟩ | ⟨g, cap, cur, rfl, hg, hh, hn, hm, hc, ht⟩
  · exact ⟨none, 0, by rw [h0], fun j hj => by omega⟩
  · refine ⟨some ⟨g, 0, none⟩, cap, rfl, fun j hj => ⟨g, 0, rfl, ?_⟩⟩
    have := World.ownsRow.cellAt (show W.ownsRow n₀ 3 1 (.slice (some ⟨g, 0, none⟩) L.length cap) L.length (icells L) from h) j (by omega)
    rw [Nat.zero_add, this, nthI_eq hj]
    simp [icells, hj]
theorem OwnI.keep {n₀ : Nat} {W W' : World} {v : Value} {L : List Int} (h : OwnI n₀ W v L) (hb : Below W.heap.size W W') : OwnI n₀ W' v L := ownsRow_keep h hb
theorem OwnI.pushed {n₀ : Nat} {w wr w1 : World} {v v' : Value} {L : List Int} {o : Obj} {d : Int} (h : OwnI n₀ wr v L) (hB : Below w.heap.size w wr) (hn : w.heap.size ≤ n₀) (hn2 : n₀ ≤ wr.heap.size)
    (hown : w1.ownsRow n₀ 3 1 v' (L.length + 1) (icells L ++ [.int .i64 d])) (hg : (wr.alloc o).grownBy w1 v.ownBlock) :
    OwnI n₀ w1 v' (L ++ [d]) ∧ Below w.heap.size w w1 := by
  refine ⟨?_, ?_⟩
  · unfold OwnI
    have e1 : (L ++ [d]).length = L.length + 1 := by simp
    have e2 : icells (L ++ [d]) = icells L ++ [.int .i64 d] := by simp [icells]
    rw [e1, e2]
    exact hown
  · exact (hB.alloc hB.size o).grown hg (by simp; have := hB.size; omega) (fun j hj => by have := (h.lt j hj).1; omega)

/-- Does a line end with this byte? Where lines begin, so far. -/
def brk (T : List Nat) (i : Nat) : Bool := decide (nth T i = 10) || (decide (nth T i = 13) && !(decide (i + 1 < T.length) && decide (nth T (i + 1) = 10)))
def linesTo (T : List Nat) : Nat → List Int
  | 0 => [0]
  | k + 1 => if brk T k then linesTo T k ++ [((k + 1 : Nat) : Int)] else linesTo T k
def linesL (T : List Nat) : List Int := linesTo T T.length
theorem linesTo_length (T : List Nat) (k : Nat) : (linesTo T k).length ≤ k + 1 := by
  induction k with
  | zero => exact Nat.le_refl _
  | succ k ih =>
    unfold linesTo
    split
    · rw [List.length_append]; simp; exact ih
    · omega
theorem lines_yes {T : List Nat} {k : Nat} (h : brk T k = true) : linesTo T (k + 1) = linesTo T k ++ [((k + 1 : Nat) : Int)] := by
  show (if brk T k then _ else _) = _
  rw [if_pos h]
theorem lines_no {T : List Nat} {k : Nat} (h : brk T k = false) : linesTo T (k + 1) = linesTo T k := by
  show (if brk T k then _ else _) = _
  rw [if_neg (by rw [h]; decide)]

theorem own_lit (w : World) : OwnI w.heap.size (w.alloc (.cells #[.int .i64 0] 3)) (.slice (some ⟨w.heap.size, 0, none⟩) 1 1) [0] :=
  World.ownsRow_lit w #[.int .i64 0] 1 (Nat.le_refl _) (by unfold maxLen; omega) rfl

end Go.Proofs.YtbdpmpepmjpadaaGreatDoor

namespace Go.Proofs.YtbdpmpepmjpadaaGreatDoor
set_option linter.unusedVariables false
set_option linter.unusedSimpArgs false
open Go Go.RowKit Go.Shelf Go.Lib

theorem infoLet : (Tryz.prog.info? 110).map (fun i => (i.zero, i.size, i.bytes)) = some (some (.agg #[.int .i64 0, .int .i64 0, .int .i64 0]), 3, 24) := by kernel_rfl
theorem three_cells {k : IntKind} {x y z : Int} : ∀ u ∈ [Value.int k x, Value.int k y, Value.int k z], u.oneCell' = true := fun u hu => by
  simp at hu
  rcases hu with rfl | rfl | rfl <;> rfl

/-- The first k letters, as cells. -/
def ltcells (T : List Nat) : Nat → List Value
  | 0 => []
  | k + 1 => ltcells T k ++ [.int .i64 ((posL T k : Nat) : Int), .int .i64 (runeAt T (posL T k)), .int .i64 ((sizeAt T (posL T k) : Nat) : Int)]
theorem ltcells_length (T : List Nat) (k : Nat) : (ltcells T k).length = k * 3 := by
  induction k with
  | zero => rfl
  | succ k ih => unfold ltcells; rw [List.length_append, ih]; simp; omega
theorem ltcells_get (T : List Nat) (k : Nat) : ∀ j, j < k → (ltcells T k)[3 * j]? = some (.int .i64 ((posL T j : Nat) : Int)) ∧ (ltcells T k)[3 * j + 1]? = some (.int .i64 (runeAt T (posL T j))) ∧ (ltcells T k)[3 * j + 2]? = some (.int .i64 ((sizeAt T (posL T j) : Nat) : Int)) := by
  induction k with
  | zero => intro j hj; omega
  | succ k ih =>
    intro j hj
    have hl := ltcells_length T k
    unfold ltcells
    rcases Nat.lt_succ_iff_lt_or_eq.1 hj with h | h
    · obtain ⟨h1, h2, h3⟩ := ih j h
      rw [List.getElem?_append_left (by omega), List.getElem?_append_left (by omega), List.getElem?_append_left (by omega)]
      exact ⟨h1, h2, h3⟩
    · subst h
      rw [List.getElem?_append_right (by omega), List.getElem?_append_right (by omega), List.getElem?_append_right (by omega), hl]
      rw [show 3 * j - j * 3 = 0 by omega, show 3 * j + 1 - j * 3 = 1 by omega, show 3 * j + 2 - j * 3 = 2 by omega]
      exact ⟨rfl, rfl, rfl⟩

/-- A list of letters in memory. -/
def LetsIn (W : World) (v : Value) (T : List Nat) (N : Nat) : Prop := ∃ ao cap, v = .slice ao N cap ∧ ∀ j, j < N → ∃ b, ao = some ⟨b, 0, none⟩ ∧ W.cell? ⟨b, 3 * j, none⟩ = some (.int .i64 ((posL T j : Nat) : Int)) ∧ W.cell? ⟨b, 3 * j + 1, none⟩ = some (.int .i64 (runeAt T (posL T j))) ∧ W.cell? ⟨b, 3 * j + 2, none⟩ = some (.int .i64 ((sizeAt T (posL T j) : Nat) : Int))
theorem LetsIn.below {W W' : World} {v : Value} {T : List Nat} {N : Nat} (h : LetsIn W v T N) (hb : Below W.heap.size W W') : LetsIn W' v T N := by
  obtain ⟨ao, cap, h1, h3⟩ := h
  refine ⟨ao, cap, h1, fun j hj => ?_⟩
  obtain ⟨b, h4, h5, h6, h7⟩ := h3 j hj
  exact ⟨b, h4, (hb.cell (p := ⟨b, 3 * j, none⟩) (block_lt h5)).trans h5, (hb.cell (p := ⟨b, 3 * j + 1, none⟩) (block_lt h6)).trans h6, (hb.cell (p := ⟨b, 3 * j + 2, none⟩) (block_lt h7)).trans h7⟩
def OwnL (n₀ : Nat) (W : World) (v : Value) (T : List Nat) (k : Nat) : Prop := W.ownsRow n₀ 110 3 v k (ltcells T k)
theorem OwnL.lets {n₀ : Nat} {W : World} {v : Value} {T : List Nat} {k : Nat} (h : OwnL n₀ W v T k) : LetsIn W v T k := by
  rcases h.2 with ⟨rfl, h0⟩ | ⟨g, cap, cur, rfl, hg, hh, hn, hm, hc, ht⟩
  · exact ⟨none, 0, by rw [h0], fun j hj => by omega⟩
  · refine ⟨some ⟨g, 0, none⟩, cap, rfl, fun j hj => ⟨g, rfl, ?_⟩⟩
    have hca := World.ownsRow.cellAt (show W.ownsRow n₀ 110 3 (.slice (some ⟨g, 0, none⟩) k cap) k (ltcells T k) from h)
    obtain ⟨h1, h2, h3⟩ := ltcells_get T k j hj
    exact ⟨(hca (3 * j) (by omega)).trans h1, (hca (3 * j + 1) (by omega)).trans h2, (hca (3 * j + 2) (by omega)).trans h3⟩
theorem OwnL.keep {n₀ : Nat} {W W' : World} {v : Value} {T : List Nat} {k : Nat} (h : OwnL n₀ W v T k) (hb : Below W.heap.size W W') : OwnL n₀ W' v T k := ownsRow_keep h hb
theorem OwnL.pushed {n₀ : Nat} {w wr w1 : World} {v v' : Value} {T : List Nat} {k : Nat} {o : Obj} {a r s : Int} (h : OwnL n₀ wr v T k) (hB : Below w.heap.size w wr) (hn : w.heap.size ≤ n₀) (hn2 : n₀ ≤ wr.heap.size)
    (hown : w1.ownsRow n₀ 110 3 v' (k + 1) (ltcells T k ++ [.int .i64 a, .int .i64 r, .int .i64 s])) (hg : (wr.alloc o).grownBy w1 v.ownBlock) (ha : a = ((posL T k : Nat) : Int)) (hr : r = runeAt T (posL T k)) (hs : s = ((sizeAt T (posL T k) : Nat) : Int)) :
    OwnL n₀ w1 v' T (k + 1) ∧ Below w.heap.size w w1 := by
  refine ⟨?_, ?_⟩
  · subst ha hr hs
    exact hown
  · exact (hB.alloc hB.size o).grown hg (by simp; have := hB.size; omega) (fun j hj => by have := (h.lt j hj).1; omega)

theorem rune_none {T : List Nat} {p : Nat} (h : runeAt T p = -1) : sizeAt T p = 1 := by
  unfold runeAt at h
  split at h
  · rename_i hh; exact hh.2
  · omega

set_option maxRecDepth 100000 in
set_option maxHeartbeats 4000000 in
theorem rletters_calls (w : World) (ao : Option Addr) (cap : Nat) (T : List Nat) (N : Nat) (h : Byts w (.slice ao T.length cap) T) (hcap : T.length ≤ cap) (h1 : ∀ k, k < N → posL T k < T.length) (h2 : posL T N = T.length) (hlen : T.length ≤ 1000000000) :
    Calls Tryz.prog 54 #[.slice ao T.length cap] w fun e w' => ∃ rv, e = .returned rv ∧ LetsIn w' rv T N ∧ Below w.heap.size w w' := by
  obtain ⟨i0, hi, hz0, hz1, hz2⟩ := info_parts infoLet
  have H := hide h
  have hsm := h.small
  have hN : N ≤ T.length := by have := posL_ge hsm h1 N (Nat.le_refl _); omega
  clear h
  go_enter Tryz.func54, Tryz.ntmps54
  go_wp2
  go_loopw [3, 4] (fun l i wr => ∃ k : Nat, k ≤ N ∧ i = .int .i64 ((posL T k : Nat) : Int) ∧ OwnL w.heap.size wr l T k ∧ Below w.heap.size w wr) (fun _ i _ => T.length - (RowKit.intOf i).toNat)
  case atStart => exact ⟨0, Nat.zero_le _, rfl, World.ownsRow_nil _ _ _ _, Below.refl _ _⟩
  case round =>
    obtain ⟨k, hk, rfl, hown, hB⟩ := hrel
    by_cases hlt : k < N
    · have hp := h1 k hlt
      have hps : posL T (k + 1) = posL T k + sizeAt T (posL T k) := rfl
      obtain ⟨s1, s2, s3⟩ := size_bounds hsm hp
      obtain ⟨b, off, rfl, _⟩ : ∃ b off, ao = some ⟨b, off, none⟩ ∧ True := by
        obtain ⟨_, _, e, _, hc⟩ := H.out
        cases e
        obtain ⟨b, off, e, _⟩ := hc 0 (by omega)
        exact ⟨b, off, e, trivial⟩
      have HO := hide (rone_calls wr b off cap T (posL T k) (H.out.below hB) hcap hp hlen)
      have Hown := hide hown
      have HB := hide hB
      have Hps := hide hps
      have H1 := hide h1
      have hkN : k ≤ 1000000000 := by omega
      have H2 := hide h2
      have Hsm := hide hsm
      generalize hP : posL T k = P at *
      generalize hS : sizeAt T P = S at *
      generalize hR : runeAt T P = R at *
      have HPP := hide hP
      have HSS := hide hS
      have HRR := hide hR
      clear hown hB hps h1 h2 hsm hP hS
      have dlt : (P : Int) < (T.length : Int) := by omega
      go_wp2_with fail
      refine HO.out.mono ?_
      rintro e W2 ⟨r, s, rfl, hcase, hb2⟩
      have HB2 := hide (bafter HB.out hb2 (Nat.le_refl _))
      have Hown2 := hide (Hown.out.keep hb2)
      have hwr : w.heap.size ≤ W2.heap.size := HB2.out.size
      clear hb2 HO Hown HB
      rcases hcase with ⟨hr, rfl, rfl⟩ | ⟨hr, rfl, rfl⟩
      · have hS1 : S = 1 := by rw [← HSS.out]; exact rune_none (by rw [HRR.out]; exact hr)
        have HSS1 := hide hS1
        have HR := hide hr
        clear hr hR hS1
        go_wp2_with (at_builtin; go_must (refine wpList_append_own _ rfl (.tmp 19) (.tmp 22) 107 rfl w.heap.size 110 i0 (.agg #[.int .i64 0, .int .i64 0, .int .i64 0]) 3 24 Tryz.underlying107 hi hz0 hz1 hz2 rfl (by decide) _ k (ltcells T k) rfl (by exact World.ownsRow.alloc Hown2.out _) ⟨W2.heap.size, 0, none⟩ 1 1 [.int .i64 (P : Int), .int .i64 (-1), .int .i64 1] rfl rfl (by exact World.news_of_block (World.alloc_heap_new _ _)) three_cells (by unfold maxLen; omega) (by omega) (by simp; omega) ?_; intro v' w1 hown' hgrow hnil))
        have hp2 := OwnL.pushed Hown2.out HB2.out (Nat.le_refl _) HB2.out.size hown' hgrow (by rw [HPP.out]) (by rw [HPP.out, HRR.out, HR.out]) (by rw [HPP.out, HSS.out, HSS1.out]; rfl)
        go_roundw
        case rel => exact ⟨k + 1, by omega, by rw [Hps.out, HSS1.out]; go_num, hp2.1, hp2.2⟩
        case measure => simp [RowKit.intOf]; omega
      · have HR := hide hr
        have hS0 : ((S : Int) == 0) = false := beq_eq_false_iff_ne.2 (by omega)
        obtain ⟨Z, hZ⟩ : ∃ Z, P + S = Z := ⟨_, rfl⟩
        have hZ' : (P : Int) + (S : Int) = (Z : Int) := by omega
        have HZ := hide hZ
        clear hr hR hZ
        go_wp2_with (at_builtin; go_must (refine wpList_append_own _ rfl (.tmp 26) (.tmp 31) 107 rfl w.heap.size 110 i0 (.agg #[.int .i64 0, .int .i64 0, .int .i64 0]) 3 24 Tryz.underlying107 hi hz0 hz1 hz2 rfl (by decide) _ k (ltcells T k) rfl (by exact World.ownsRow.alloc Hown2.out _) ⟨W2.heap.size, 0, none⟩ 1 1 [.int .i64 (P : Int), .int .i64 r, .int .i64 (S : Int)] rfl rfl (by exact World.news_of_block (World.alloc_heap_new _ _)) three_cells (by unfold maxLen; omega) (by omega) (by simp; omega) ?_; intro v' w1 hown' hgrow hnil))
        have hp2 := OwnL.pushed Hown2.out HB2.out (Nat.le_refl _) HB2.out.size hown' hgrow (by rw [HPP.out]) (by rw [HPP.out, HRR.out]) (by rw [HPP.out, HSS.out])
        go_roundw
        case rel => exact ⟨k + 1, by omega, by rw [Hps.out, HZ.out], hp2.1, hp2.2⟩
        case measure => (have := HZ.out; simp [RowKit.intOf]; omega)
    · obtain rfl : k = N := by omega
      have d1 : ¬ ((posL T k : Nat) : Int) < (T.length : Int) := by omega
      have Hown := hide hown
      have HB := hide hB
      clear hown hB h1
      go_wp2
      go_ret
      exact ⟨_, rfl, Hown.out.lets, HB.out⟩

end Go.Proofs.YtbdpmpepmjpadaaGreatDoor

namespace Go.Proofs.YtbdpmpepmjpadaaGreatDoor
set_option linter.unusedVariables false
set_option linter.unusedSimpArgs false
open Go Go.RowKit Go.Shelf Go.Lib

theorem rune_sign (T : List Nat) (p : Nat) : runeAt T p = -1 ∨ 0 ≤ runeAt T p := by
  unfold runeAt
  split
  · exact .inl rfl
  · exact .inr (by omega)
theorem told_one {T : List Nat} {N a a' : Nat} {e e' : Int} (h : Told T N a e) (h' : Told T N a' e') : a = a' ∧ e = e' := by
  rcases h with ⟨k, hk, h1, h2, rfl, rfl⟩ | ⟨h1, rfl, rfl⟩ <;> rcases h' with ⟨k', hk', h1', h2', rfl, rfl⟩ | ⟨h1', rfl, rfl⟩
  · have : k = k' := by
      rcases Nat.lt_trichotomy k k' with g | g | g
      · exact absurd h2 (h1' k g)
      · exact g
      · exact absurd h2' (h1 k' g)
    rw [this]; exact ⟨rfl, rfl⟩
  · exact absurd h2 (h1' k hk)
  · exact absurd h2' (h1 k' hk')
  · exact ⟨rfl, rfl⟩

set_option maxRecDepth 100000 in
set_option maxHeartbeats 4000000 in
theorem rvalid_calls (w : World) (ao : Option Addr) (cap : Nat) (T : List Nat) (N : Nat) (h : Byts w (.slice ao T.length cap) T) (hcap : T.length ≤ cap) (h1 : ∀ k, k < N → posL T k < T.length) (h2 : posL T N = T.length) (hlen : T.length ≤ 1000000000) :
    Calls Tryz.prog 31 #[.slice ao T.length cap] w fun e w' => ∃ (a : Nat) (er : Int), e = .returned (.tuple #[.int .i64 (a : Int), .int .i64 er]) ∧ Told T N a er ∧ Below w.heap.size w w' := by
  have hN : N ≤ T.length := by have := posL_ge h.small h1 N (Nat.le_refl _); omega
  have HL := hide (rletters_calls w ao cap T N h hcap h1 h2 hlen)
  clear h h1 h2
  go_enter Tryz.func31, Tryz.ntmps31
  go_wp2_with (go_at_call 54; refine HL.out.mono ?_; rintro e W1 ⟨rv, rfl, hl, hb⟩)
  obtain ⟨lo, lc, rfl, hc⟩ := hl
  have HC := hide hc
  have HB := hide hb
  clear hc hb HL
  go_loopw [5] (fun i wr => ∃ k : Nat, k ≤ N ∧ i = .int .i64 (k : Int) ∧ (∀ j, j < k → runeAt T (posL T j) ≠ -1) ∧ wr = W1) (fun i _ => N - (RowKit.intOf i).toNat)
  case atStart => exact ⟨0, Nat.zero_le _, rfl, fun j hj => by omega, rfl⟩
  case round =>
    obtain ⟨k, hk, rfl, hno, rfl⟩ := hrel
    have HN := hide hno
    clear hno
    by_cases hlt : k < N
    · obtain ⟨b, rfl, c0, c1, c2⟩ := HC.out k hlt
      have hs := rune_sign T (posL T k)
      have d1 : (k : Int) < (N : Int) := by omega
      have d0 : (0 : Int) ≤ (k : Int) := by omega
      have hkm : k * 3 = 3 * k := by omega
      generalize hP : posL T k = P at *
      generalize hR : runeAt T P = R at *
      have HP := hide hP
      have HR := hide hR
      clear hP hR
      by_cases hneg : R < 0
      · have hR1 : R = -1 := by omega
        have HR1 := hide hR1
        clear hR1 hs
        go_wp2
        go_ret2
        exact ⟨P, 10, rfl, .inl ⟨k, hlt, HN.out, by rw [HP.out, HR.out, HR1.out], by rw [HP.out], rfl⟩, HB.out⟩
      · clear hs
        go_wp2
        go_roundw
        case rel =>
          refine ⟨k + 1, by omega, by go_num, fun j hj => ?_, trivial⟩
          rcases Nat.lt_succ_iff_lt_or_eq.1 hj with g | g
          · exact HN.out j g
          · rw [g, HP.out, HR.out]; omega
        case measure => simp [RowKit.intOf]; omega
    · obtain rfl : k = N := by omega
      have d1 : ¬ (k : Int) < (k : Int) := by omega
      go_wp2
      go_ret2
      exact ⟨0, 0, rfl, .inr ⟨HN.out, rfl, rfl⟩, HB.out⟩


end Go.Proofs.YtbdpmpepmjpadaaGreatDoor

namespace Go.Proofs.YtbdpmpepmjpadaaGreatDoor
set_option linter.unusedVariables false
set_option linter.unusedSimpArgs false
set_option maxRecDepth 100000
open Go Go.RowKit Go.Shelf Go.Lib

/-- A string's bytes. -/
def bytesT (s : ByteArray) : List Nat := s.data.toList.map (·.toNat)
theorem bytes_all (s : ByteArray) : (∀ x ∈ bytesT s, x < 256) ∧ (bytesT s).length = s.size ∧ strOf (bytesT s) = s := by
  obtain ⟨⟨l⟩⟩ := s
  unfold bytesT
  refine ⟨fun x hx => ?_, by simp [ByteArray.size], ?_⟩
  · obtain ⟨c, _, rfl⟩ := List.mem_map.1 hx
    exact c.toNat_lt
  · unfold strOf
    rw [List.map_map]
    have : (UInt8.ofNat ∘ fun x : UInt8 => x.toNat) = id := by
      funext x
      simp
    rw [this, List.map_id]
/-- The small whole number that a tree is. -/
def intO : JT → Option Int
  | .mk k s _ _ => intJ k (bytesT s)
def wholeJ (T : JT) (s : ByteArray) : Option Int := (getJ T s).bind intO
def posJ (T : JT) : Option (Int × Int) := (wholeJ T kLine).bind fun a => (wholeJ T kChar).map fun b => (a, b)
def rangeJ (T : JT) : Option ((Int × Int) × (Int × Int)) := ((getJ T kStart).bind posJ).bind fun p => ((getJ T kEnd).bind posJ).map fun q => (p, q)
theorem int_clone (T : JT) : intO (clJ T) = intO T := by
  obtain ⟨k, s, K, L⟩ := T
  rw [clJ_eq]
  show (if k = 3 then intT (bytesT (if k = 3 ∨ k = 4 then s else ⟨#[]⟩)) else none) = (if k = 3 then intT (bytesT s) else none)
  by_cases h : k = 3
  · rw [if_pos (.inl h : k = 3 ∨ k = 4)]
  · rw [if_neg h, if_neg h]
theorem getJ_of_clone (T : JT) (s : ByteArray) : getJ (clJ T) s = (getJ T s).map clJ := by
  obtain ⟨k, s0, K, L⟩ := T
  rw [clJ_eq]
  unfold getJ
  by_cases h6 : k = 6
  · subst h6
    have e1 : kP 6 K = K := if_pos rfl
    have e2 : lP 6 L = L := if_pos (.inr rfl)
    simp only [e1, e2, clJs_length]
    by_cases hc : K.length = L.length
    · rw [if_pos ⟨trivial, hc⟩, if_pos ⟨trivial, hc⟩]
      cases fndK K s with
      | none => rfl
      | some j => exact clJs_get L j
    · rw [if_neg (fun h => hc h.2), if_neg (fun h => hc h.2)]
      rfl
  · simp only
    rw [if_neg (fun h => h6 h.1), if_neg (fun h => h6 h.1)]
    rfl
theorem whole_clone (T : JT) (s : ByteArray) : wholeJ (clJ T) s = wholeJ T s := by
  unfold wholeJ
  rw [getJ_of_clone]
  cases getJ T s with
  | none => rfl
  | some t => exact int_clone t
theorem pos_clone (T : JT) : posJ (clJ T) = posJ T := by
  unfold posJ
  rw [whole_clone, whole_clone]
theorem int_zero : intO zeroT = none := by
  unfold intO zeroT
  exact if_neg (by decide)
theorem pos_zero : posJ zeroT = none := by
  unfold posJ wholeJ getJ zeroT
  simp
theorem int_got (o : Option JT) : intO ((o.map clJ).getD zeroT) = o.bind intO ∧ intO (o.getD zeroT) = o.bind intO := by
  cases o with
  | none => exact ⟨int_zero, int_zero⟩
  | some t => exact ⟨int_clone t, rfl⟩
theorem pos_got (o : Option JT) : posJ ((o.map clJ).getD zeroT) = o.bind posJ ∧ posJ (o.getD zeroT) = o.bind posJ := by
  cases o with
  | none => exact ⟨pos_zero, pos_zero⟩
  | some t => exact ⟨pos_clone t, rfl⟩
theorem sz_lt {N : Nat} (hN : N ≤ 20000) {T : JT} (h : SzT N T) : LtT T := by
  induction h with
  | mk k s K L hK hL hs ht ih => exact .mk k s K L (by omega) (by omega) (fun _ => by omega) ih
/-- Int of any tree, by both. -/
theorem int_tree (w : World) {S : Nat → Prop} {x : JC} {T : JT} (hx : TIn w S x T) (hl : LtT T) (hE : ErrS w) :
    Calls Tryz.prog 52 #[vagg x] w fun e w' => e = .returned (optV (intO T)) ∧ Below w.heap.size w w' := by
  obtain ⟨h1, h2⟩ := hx.sl
  cases hx with
  | mk k s kv la lc K L xs hK hc hsl ht =>
    simp only at h1 h2
    obtain ⟨ka, kn, kc, rfl⟩ := h1
    have h := jint_all w k (bytesT s) (bytes_all s).1 (fun h3 => by rw [(bytes_all s).2.1]; cases hl with | mk _ _ _ _ _ _ hs _ => exact hs h3) ka la kn kc L.length lc hE
    rw [(bytes_all s).2.2] at h
    exact h
theorem rint_tree (w : World) {S : Nat → Prop} {x : JC} {T : JT} (hx : TIn w S x T) (hl : LtT T) :
    Calls Tryz.prog 30 #[vagg x] w fun e w' => e = .returned (optV (intO T)) ∧ Below w.heap.size w w' := by
  obtain ⟨h1, h2⟩ := hx.sl
  cases hx with
  | mk k s kv la lc K L xs hK hc hsl ht =>
    simp only at h1 h2
    obtain ⟨ka, kn, kc, rfl⟩ := h1
    have h := rint_all w k (bytesT s) (bytes_all s).1 (fun h3 => by rw [(bytes_all s).2.1]; cases hl with | mk _ _ _ _ _ _ hs _ => exact hs h3) ka la kn kc L.length lc
    rw [(bytes_all s).2.2] at h
    exact h
theorem optV_is (o : Option Int) : ∃ c b, optV o = .tuple #[.int .i64 c, .bool b] := ⟨_, _, rfl⟩
def posV (o : Option (Int × Int)) : Value := .tuple #[.agg #[.int .i64 (o.getD (0, 0)).1, .int .i64 (o.getD (0, 0)).2], .bool o.isSome]
def rangeV (o : Option ((Int × Int) × (Int × Int))) : Value := .tuple #[.agg #[.int .i64 (o.getD ((0, 0), (0, 0))).1.1, .int .i64 (o.getD ((0, 0), (0, 0))).1.2], .agg #[.int .i64 (o.getD ((0, 0), (0, 0))).2.1, .int .i64 (o.getD ((0, 0), (0, 0))).2.2], .bool o.isSome]
/-- The reference's Parse, of any text that is short enough: it ends with some tree. -/
theorem rparse_all (w : World) (ao : Option Addr) (cap : Nat) (T : List Nat) (hby : Byts w (.slice ao T.length cap) T) (hlen : T.length ≤ 1000000) (hcap : T.length ≤ cap) (hao : ∀ a, ao = some a → a.block < w.heap.size) :
    Calls Tryz.prog 11 #[.slice ao T.length cap] w (RParR T w) := by
  refine rparse_any w ao cap T hby hlen hcap hao fun W hW => ?_
  have hb := hby.below hW
  obtain ⟨N, h1, h2⟩ := letters_count hby.small
  refine (rvalid_calls W ao cap T N hb hcap h1 h2 (by omega)).mono ?_
  rintro e w' ⟨a, er, rfl, _, h3⟩
  exact ⟨_, _, rfl, h3⟩

end Go.Proofs.YtbdpmpepmjpadaaGreatDoor

namespace Go.Proofs.YtbdpmpepmjpadaaGreatDoor
set_option linter.unusedVariables false
set_option linter.unusedSimpArgs false
set_option maxRecDepth 100000
open Go Go.RowKit Go.Shelf Go.Lib Go.ChangeShapes Go.WideShapes

theorem own : ownKnob Tryz.prog.godebug = none := by kernel_rfl
theorem laidOut : laidOutB Tryz.prog = true := by kernel_rfl
theorem cellsU8 : Tryz.prog.cellsOf 5 = 1 := by kernel_rfl
theorem cellsInt : Tryz.prog.cellsOf 3 = 1 := by kernel_rfl
theorem cellsStr : Tryz.prog.cellsOf 9 = 1 := by kernel_rfl
theorem cellsFirst : Tryz.prog.cellsOf 169 = 256 := by kernel_rfl
theorem cellsRange : Tryz.prog.cellsOf 172 = 2 := by kernel_rfl
theorem globFirst : Tryz.prog.globalNamed "unicode/utf8.first" = some 0 := by kernel_rfl
theorem globAccept : Tryz.prog.globalNamed "unicode/utf8.acceptRanges" = some 1 := by kernel_rfl
theorem typeFirst : (Tryz.prog.globals[0]?).map (·.type) = some 169 := by kernel_rfl
theorem typeAccept : (Tryz.prog.globals[1]?).map (·.type) = some 173 := by kernel_rfl
/-- What the rows list of the variables. -/
def laidA : List (String × DataW Unit) := [("unicode/utf8.acceptRanges", Rows.laid_unicode_utf8_acceptRanges), ("unicode/utf8.first", Rows.laid_unicode_utf8_first)]
def laidB : List (String × DataW Unit) := [("math/bits.deBruijn32tab", Rows.laid_math_bits_deBruijn32tab), ("math/bits.deBruijn64tab", Rows.laid_math_bits_deBruijn64tab), ("internal/strconv.uint64pow10", Rows.laid_internal_strconv_uint64pow10), ("unicode/utf8.acceptRanges", Rows.laid_unicode_utf8_acceptRanges), ("unicode/utf8.first", Rows.laid_unicode_utf8_first)]
theorem laidFirst : (Rows.laid_unicode_utf8_first : DataW Unit) = firstData := by kernel_rfl
theorem laidAccept : (Rows.laid_unicode_utf8_acceptRanges : DataW Unit) = acceptData := by kernel_rfl

theorem tabs_of_reads {W : World} (h3 : VarReads Tryz.prog W "unicode/utf8.first" firstData) (h4 : VarReads Tryz.prog W "unicode/utf8.acceptRanges" acceptData) : Utf8Tabs 0 1 W := by
  refine ⟨fun c hc => ?_, fun i hi => ?_⟩
  · obtain ⟨g, t, cs, fuel, p, hg, hty, hvar, hd⟩ := h3
    obtain rfl := Option.some.inj (globFirst.symm.trans hg)
    obtain rfl := Option.some.inj (typeFirst.symm.trans hty)
    have hcs := cells_of_tab Tryz.underlying169 Tryz.underlying5 cellsU8 cellsFirst hd
    rw [World.var?_cell hg hvar c, ← Array.getElem?_toList, hcs]
    simp [firstTab, hc]
  · obtain ⟨g, t, cs, fuel, p, hg, hty, hvar, hd⟩ := h4
    obtain rfl := Option.some.inj (globAccept.symm.trans hg)
    obtain rfl := Option.some.inj (typeAccept.symm.trans hty)
    obtain ⟨fuel', d, q, hdi, he⟩ := array_elem Tryz.underlying173 hd i hi
    simp only [List.getElem?_map, List.getElem?_range hi, Option.map_some, Option.some.injEq] at hdi
    subst hdi
    rw [cellsRange] at he
    have hcs := ints_of_struct Tryz.underlying172 (fun j f hj => by
      match j, hj with
      | 0, hj => simp at hj; subst hj; exact ⟨Tryz.underlying5, rfl, cellsU8⟩
      | 1, hj => simp at hj; subst hj; exact ⟨Tryz.underlying5, rfl, cellsU8⟩
      | j + 2, hj => simp at hj) (by rw [cellsRange]; rfl) he
    have e0 := congrArg (·[0]?) hcs
    have e1 := congrArg (·[1]?) hcs
    simp only [List.getElem?_take, List.getElem?_drop] at e0 e1
    constructor
    · rw [World.var?_cell hg hvar (2 * i), ← Array.getElem?_toList]
      simpa [Nat.mul_comm] using e0
    · rw [World.var?_cell hg hvar (2 * i + 1), ← Array.getElem?_toList]
      simpa [Nat.mul_comm] using e1

theorem tabs_inA {W : World} (hL : laidMetH Tryz.prog laidA W) : Utf8Tabs 0 1 W := by
  rw [MakeChecks.laidMetH_plain _ _ _ (by kernel_rfl)] at hL
  have h3 : VarReads Tryz.prog W "unicode/utf8.first" firstData := by rw [← laidFirst]; exact laidMet.reads (l := laidA) hL (by simp [laidA])
  have h4 : VarReads Tryz.prog W "unicode/utf8.acceptRanges" acceptData := by rw [← laidAccept]; exact laidMet.reads (l := laidA) hL (by simp [laidA])
  exact tabs_of_reads h3 h4
theorem tabs_inB {W : World} (hL : laidMetH Tryz.prog laidB W) : Utf8Tabs 0 1 W := by
  rw [MakeChecks.laidMetH_plain _ _ _ (by kernel_rfl)] at hL
  have h3 : VarReads Tryz.prog W "unicode/utf8.first" firstData := by rw [← laidFirst]; exact laidMet.reads (l := laidB) hL (by simp [laidB])
  have h4 : VarReads Tryz.prog W "unicode/utf8.acceptRanges" acceptData := by rw [← laidAccept]; exact laidMet.reads (l := laidB) hL (by simp [laidB])
  exact tabs_of_reads h3 h4

/-- A row's wrap that keeps both what is laid and the world's shape. -/
theorem handed_and_shaped {H : Type} {enc : TypeId × Value → H} {a : Assume} {C : Checked} {os : Os} {f : FuncId} {fn : Func} {s : ChangeSpec} {conds : List PathCond} {apart fresh handsOn again : Bool} {X : World → Array Value → Prop}
    (hX : ∀ (w w' : World) (args : Array Value), w.heap = w'.heap → X w args → X w' args)
    (own : ownKnob C.prog.godebug = none) (started : os.Started) (noInit : C.prog.inits.idxOf? f = none) (hfn : C.prog.funcs[f]? = some fn)
    (witness : ∃ (w : World) (tape : Tape) (i : Input), w.os = os ∧ (w.forCall tape i).Shaped C.prog ∧ i.vars = [] ∧ Input.okWide C.prog (w.forCall tape i) .any w.heap.size f i ∧
      ((s.pre enc C.prog fn conds apart (w.forCall tape i).memory i.args ∧ X (w.forCall tape i).memory i.args) ∧ sizedMet enc C.prog fn (OpenSpec.ofChange s) apart (w.forCall tape i).memory i.args) ∧ a.holds C.prog (lone (Frame.enter C.prog f i.args .normal) [] (w.forCall tape i)))
    (contract : ∀ (W : World) (base : Nat) (args : Array Value) (ds gs : List (DataW H)) (before : List MemPlace),
      (∀ (j : Nat) t v, fn.params[j]? = some t → args[j]? = some v → Value.okWide C.prog W .any base t v) →
      DataW.Whole enc C.prog fn.params.toList s.vars apart W args.toList ds gs before →
      conds.all (PathCond.test C.prog ⟨fn.params.toList, ds, s.plain.varTypes C.prog, gs⟩) = true →
      (DataW.weightsEach C.prog (fn.params.toList ++ s.plain.varTypes C.prog) (ds ++ gs)).all (· ≤ reachBytes) = true → X W args → W.ShapedOpen C.prog →
      a.holds C.prog (lone (Frame.enter C.prog f args .normal) [] W) →
      Calls C.prog f args W fun e W' => ∃ v, e = .returned v ∧ s.post enc C.prog fn apart fresh handsOn again W args v W') :
    ReturnsInHanded a C os f .any (fun w args => (s.pre enc C.prog fn conds apart w args ∧ X w args) ∧ sizedMet enc C.prog fn (OpenSpec.ofChange s) apart w args) (s.post enc C.prog fn apart fresh handsOn again) := by
  refine returnsInHanded_of_calls own started noInit witness ?_
  intro w tape i _ hsh _ hok hpre hholds
  obtain ⟨_, _, _, fn', hfn', _, _, _, _, hval⟩ := hok
  have e : fn' = fn := Option.some.inj (hfn'.symm.trans hfn)
  subst e
  obtain ⟨⟨⟨ds, gs, before, hw, hc⟩, hx⟩, hz⟩ := hpre
  have hw' := DataW.Whole.of_heap (w' := w.forCall tape i) (by rfl) hw
  refine (contract (w.forCall tape i) w.heap.size i.args ds gs before hval hw' hc (hz.weights hw) (hX _ _ _ (by rfl) hx) hsh hholds).mono fun e W' ⟨v, he, hp⟩ => ?_
  subst he
  exact ChangeSpec.post_blind hp

/-- Strings that came in. -/
theorem strs_in {H : Type} {enc : TypeId × Value → H} {W : World} {base : Nat} {v : Value} {d : DataW H} {ps : List MemPlace}
    (hval : Value.okWide Tryz.prog W .any base 24 v) (h : DataW.Trod enc Tryz.prog W 0 (fun _ => true) true 24 v d ps) : ∃ ao cap K, v = .slice ao K.length cap ∧ StrsIn W (.slice ao K.length cap) K := by
  obtain ⟨a0, len0, cap0, rfl⟩ := okWide_slice Tryz.underlying24 hval
  obtain ⟨fuel, hf⟩ := h
  rcases Deep.open_strs Tryz.underlying24 Tryz.underlying9 cellsStr hf with ⟨hcs, _⟩ | ⟨a, l, c, m, Sx, hcs, _, hl, hm, hmm, _, hx⟩
  · simp [Value.cells] at hcs
    obtain ⟨rfl, rfl, rfl⟩ := hcs
    exact ⟨none, 0, [], rfl, ⟨none, 0, rfl, fun j hj => by simp at hj⟩⟩
  · simp [Value.cells] at hcs
    obtain ⟨rfl, rfl, rfl⟩ := hcs
    have hlen : ((List.range len0).map Sx).length = len0 := by simp
    refine ⟨some a, cap0, (List.range len0).map Sx, by rw [hlen], ⟨some a, cap0, by rw [hlen], fun j hj => ?_⟩⟩
    rw [hlen] at hj
    have hc := (hx j (by rw [hmm]; simp; omega)).1
    have hc0 := (hx 0 (by rw [hmm]; simp; omega)).1
    obtain ⟨b, off, spot⟩ := a
    have hspot : spot = none := by simpa [Addr.add] using World.cell?_spot hc0
    subst hspot
    rw [addr_plus] at hc
    refine ⟨b, off, rfl, ?_⟩
    rw [hc]
    simp [nthS, hj]

end Go.Proofs.YtbdpmpepmjpadaaGreatDoor

namespace Go.Proofs.YtbdpmpepmjpadaaGreatDoor
set_option linter.unusedVariables false
set_option linter.unusedSimpArgs false
set_option maxRecDepth 100000
open Go Go.RowKit Go.Shelf Go.Lib Go.ChangeShapes Go.WideShapes

theorem cellsU64 : Tryz.prog.cellsOf 164 = 1 := by kernel_rfl
theorem cellsPow : Tryz.prog.cellsOf 186 = 20 := by kernel_rfl
theorem globPow : Tryz.prog.globalNamed "internal/strconv.uint64pow10" = some 5 := by kernel_rfl
theorem typePow : (Tryz.prog.globals[5]?).map (·.type) = some 186 := by kernel_rfl
theorem globSyn : Tryz.prog.globalNamed "strconv.ErrSyntax" = some 3 := by kernel_rfl
theorem typeSyn : (Tryz.prog.globals[3]?).map (·.type) = some 128 := by kernel_rfl
theorem cellsErrE : Tryz.prog.cellsOf 196 = 1 := by kernel_rfl
theorem starErr : "*" ++ "errors.errorString" = "*errors.errorString" := by decide
theorem rowErr (u : TypeId) (h : Tryz.prog.typeName? 3 u = some "*errors.errorString") : u = 194 :=
  typeName_ptr_named (nm := "errors.errorString") (by rw [starErr]; kernel_rfl) (by kernel_rfl) (by decide) u (by rw [starErr]; exact h)

/-- What the row lists of the variables. -/
def laidC : List (String × DataW Unit) := [("math/bits.deBruijn32tab", Rows.laid_math_bits_deBruijn32tab), ("math/bits.deBruijn64tab", Rows.laid_math_bits_deBruijn64tab), ("internal/strconv.uint64pow10", Rows.laid_internal_strconv_uint64pow10), ("unicode/utf8.acceptRanges", Rows.laid_unicode_utf8_acceptRanges), ("strconv.ErrRange", Rows.laid_strconv_ErrRange), ("strconv.ErrSyntax", Rows.laid_strconv_ErrSyntax), ("unicode/utf8.first", Rows.laid_unicode_utf8_first)]
theorem laidPow : (Rows.laid_internal_strconv_uint64pow10 : DataW Unit) = tabData .u64 pow10Tab := by rfl
theorem tabs_inC {W : World} (hL : laidMetH Tryz.prog laidC W) : Utf8Tabs 0 1 W := by
  rw [MakeChecks.laidMetH_plain _ _ _ (by kernel_rfl)] at hL
  have h3 : VarReads Tryz.prog W "unicode/utf8.first" firstData := by rw [← laidFirst]; exact laidMet.reads (l := laidC) hL (by simp [laidC])
  have h4 : VarReads Tryz.prog W "unicode/utf8.acceptRanges" acceptData := by rw [← laidAccept]; exact laidMet.reads (l := laidC) hL (by simp [laidC])
  exact tabs_of_reads h3 h4
theorem pow_inC {W : World} (hL : laidMetH Tryz.prog laidC W) : Pow W := by
  rw [MakeChecks.laidMetH_plain _ _ _ (by kernel_rfl)] at hL
  have h3 : VarReads Tryz.prog W "internal/strconv.uint64pow10" (tabData .u64 pow10Tab) := by rw [← laidPow]; exact laidMet.reads (l := laidC) hL (by simp [laidC])
  obtain ⟨g, t, cs, fuel, p, hg, ht, hv, hd⟩ := h3
  obtain rfl := Option.some.inj (globPow.symm.trans hg)
  obtain rfl := Option.some.inj (typePow.symm.trans ht)
  unfold Pow TabIs
  rw [hv, ← cells_of_tab Tryz.underlying186 Tryz.underlying164 cellsU64 cellsPow hd]
theorem err_inC {W : World} (hL : laidMetH Tryz.prog laidC W) : ErrS W := by
  rw [MakeChecks.laidMetH_plain _ _ _ (by kernel_rfl)] at hL
  have h5 := laidMet.tail (laidMet.tail (laidMet.tail (laidMet.tail (laidMet.tail hL))))
  obtain ⟨a, s, hv, _⟩ := laid_sentinel h5 globSyn typeSyn Tryz.underlying128 rowErr Tryz.underlying194 Tryz.underlying196 rfl rfl Tryz.underlying9 cellsErrE cellsStr
  have h0 := World.var?_cell globSyn hv 0
  exact ⟨.iface 194 (.pointer (some a)), by simpa using h0, .inr ⟨_, _, rfl⟩⟩

end Go.Proofs.YtbdpmpepmjpadaaGreatDoor

namespace Go.Proofs.YtbdpmpepmjpadaaGreatDoor
set_option linter.unusedVariables false
set_option linter.unusedSimpArgs false
set_option maxRecDepth 100000
open Go Go.RowKit Go.Shelf Go.Lib Go.ChangeShapes Go.WideShapes Go.ChangeAt

theorem shape_lt {w : World} {r : Nat} {x : TypeId × Nat} (h : w.shape? r = some x) : r < w.heap.size := by
  unfold World.shape? at h
  split at h
  · rename_i hr
    exact (Array.getElem?_eq_some_iff.1 hr).1
  · cases h
theorem slice_block {W : World} {base : Nat} {a : Addr} {len cap : Nat} (h : Value.okWide Tryz.prog W .any base 22 (.slice (some a) len cap)) : a.block < W.heap.size := by
  unfold Value.okWide at h
  rw [Tryz.underlying22] at h
  simp only [Cell.okWide, Cell.ok, Tryz.underlying22, World.has] at h
  obtain ⟨_, _, _, _, row, cells, hs, _⟩ := h
  exact shape_lt hs
theorem bytes_inB {H : Type} {enc : TypeId × Value → H} {W : World} {base : Nat} {v : Value} {d : DataW H} {ps : List MemPlace}
    (hval : Value.okWide Tryz.prog W .any base 22 v) (h : DataW.Trod enc Tryz.prog W 0 (fun _ => true) true 22 v d ps) : ∃ ao cap T, v = .slice ao T.length cap ∧ Byts W (.slice ao T.length cap) T ∧ T.length ≤ cap ∧ ∀ a, ao = some a → a.block < W.heap.size := by
  obtain ⟨a0, len0, cap0, rfl⟩ := okWide_slice Tryz.underlying22 hval
  obtain ⟨fuel, hf⟩ := h
  rcases open_ints Tryz.underlying22 Tryz.underlying5 cellsU8 hf with ⟨hcs, _⟩ | ⟨x, l, c, zs, hcs, _, hl, hm, hz, hx, hcell, hwz⟩
  · simp [Value.cells] at hcs
    obtain ⟨rfl, rfl, rfl⟩ := hcs
    exact ⟨none, 0, [], rfl, ⟨none, 0, rfl, fun x hx => by simp at hx, fun j hj => by simp at hj⟩, Nat.le_refl _, fun _ h => by cases h⟩
  · simp [Value.cells] at hcs
    obtain ⟨rfl, rfl, rfl⟩ := hcs
    simp only [if_true] at hz
    have hl0 : ((zs.take len0).map Int.toNat).length = len0 := by simp; omega
    have hw : ∀ n ∈ zs, 0 ≤ n ∧ n < 256 := fun n hn => by
      have := hwz n hn
      simp [Lit.wf, IntKind.min, IntKind.max, IntKind.signed, IntKind.bits] at this
      omega
    refine ⟨some x, cap0, (zs.take len0).map Int.toNat, by rw [hl0], ⟨some x, cap0, by rw [hl0], ?_, fun j hj => ?_⟩, by rw [hl0]; exact hl, fun a e => by cases e; exact slice_block hval⟩
    · intro y hy
      obtain ⟨n, hn, rfl⟩ := List.mem_map.1 hy
      have := hw n (List.mem_of_mem_take hn)
      omega
    · rw [hl0] at hj
      have hc := hcell j (by omega)
      have hc0 := hcell 0 (by omega)
      obtain ⟨b, off, spot⟩ := x
      have hspot : spot = none := by simpa [Addr.add] using World.cell?_spot hc0
      subst hspot
      have ha : (⟨b, off, none⟩ : Addr).add j = ⟨b, off + j, none⟩ := by
        unfold Addr.add
        split
        · rename_i h0; simp [h0]
        · rfl
      rw [ha] at hc
      refine ⟨b, off, rfl, ?_⟩
      have hjz : j < zs.length := by omega
      have hmem := hw zs[j] (List.getElem_mem hjz)
      have e1 : nth ((zs.take len0).map Int.toNat) j = (zs[j]).toNat := by
        unfold nth
        rw [List.getElem?_eq_getElem (by simp; omega)]
        simp
      rw [e1, Int.toNat_of_nonneg hmem.1]
      simpa [List.getD, hjz] using hc

end Go.Proofs.YtbdpmpepmjpadaaGreatDoor
