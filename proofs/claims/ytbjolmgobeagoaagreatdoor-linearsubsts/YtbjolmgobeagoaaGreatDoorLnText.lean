/- A sum's text: Text. -/
import Derived.Test.YtbjolmgobeagoaaGreatDoorLnWrite
import Derived.Test.YtbjolmgobeagoaaGreatDoorLnBnd
import Derived.Test.YtbjolmgobeagoaaGreatDoorNumBack
namespace Go.Proofs.YtbjolmgobeagoaaGreatDoor
set_option linter.unusedVariables false
set_option linter.unusedSimpArgs false
set_option maxRecDepth 100000
open Go Go.RowKit Go.Shelf Go.Lib
attribute [local go_sem] Oper.semAt_some

/-- A part behind a text. -/
def wrP (l : List UInt8) (p : Int × Int) : List UInt8 := (wrN l p.2 ++ [42, 120]) ++ itoa p.1
def wrPs (l : Ps) : List UInt8 := l.foldl wrP []
/-- A sum's text. -/
def textL (c : Int) (l : Ps) : List UInt8 := if wrPs l = [] ∨ c ≠ 0 then wrN (wrPs l) c else wrPs l

theorem itoa_len {z : Int} {k : Nat} (h : z.natAbs < R ^ k) (hk : 0 < k) : (itoa z).length ≤ 10 * k + 1 := by
  have := itoa_size (lt_ten h) (by omega)
  have e : (⟨(itoa z).toArray⟩ : ByteArray).size = (itoa z).length := by simp [ByteArray.size]
  omega
theorem rng_R {v : Int} (h : Rng v) : v.natAbs < R ^ 2 := by
  have : R ^ 2 = 18446744073709551616 := by decide
  unfold Rng at h
  omega
theorem wrP_len {l : List UInt8} {p : Int × Int} {k : Nat} (h : p.2.natAbs < R ^ k) (hk : 0 < k) (hv : Rng p.1) : (wrP l p).length ≤ l.length + (10 * k + 30) := by
  have h1 := itoa_len h hk
  have h2 := itoa_len (rng_R hv) (by omega)
  unfold wrP wrN
  split <;> simp <;> omega
theorem wrPs_len {M : List Pt} {k : Nat} (hk : 0 < k) (hb : Bnd k (ps M)) (hr : ∀ m ∈ M, Rng m.1) : (wrPs (ps M)).length ≤ M.length * (10 * k + 30) := by
  have H : ∀ (L : List Pt) (a : List UInt8), Bnd k (ps L) → (∀ m ∈ L, Rng m.1) → ((ps L).foldl wrP a).length ≤ a.length + L.length * (10 * k + 30) := by
    intro L
    induction L with
    | nil => intro a _ _; simp [ps]
    | cons m L ih =>
      intro a hb hr
      have h1 := ih (wrP a (pt m)) (fun p hp => hb p (by simp only [ps, List.map_cons, List.mem_cons]; exact .inr hp)) (fun x hx => hr x (by simp [hx]))
      have h2 := wrP_len (l := a) (p := pt m) (hb (pt m) (by simp [ps])) hk (hr m (by simp))
      simp only [ps, List.map_cons, List.foldl_cons, List.length_cons] at h1 ⊢
      rw [Nat.add_mul]
      omega
  have := H M [] hb hr
  show ((ps M).foldl wrP []).length ≤ _
  simpa using this
theorem wrPs_step {M : List Pt} {i : Nat} {m : Pt} (h : M[i]? = some m) : wrPs (ps (M.take (i + 1))) = wrP (wrPs (ps (M.take i))) (pt m) := by
  rw [List.take_add_one, h, ps_append]
  unfold wrPs
  rw [List.foldl_append]
  rfl

/-- All cells of a world but one block are as they were. -/
def Ct (b : Nat) (w W : World) : Prop := ∀ k o, k ≠ b → w.heap[k]? = some o → o.isCells = true → W.heap[k]? = some o
theorem Ct.refl (b : Nat) (w : World) : Ct b w w := fun _ _ _ h _ => h
theorem Ct.cel {b : Nat} {w W W' : World} (h : Ct b w W) (hc : Cel W W') : Ct b w W' := fun k o hk hw ho => hc k o (h k o hk hw ho) ho
theorem Ct.btb {b n : Nat} {w W W' : World} (h : Ct b w W) (hn : w.heap.size ≤ n) (hb : BtB n b W W') : Ct b w W' := fun k o hk hw ho =>
  (hb.block k (Nat.lt_of_lt_of_le (Array.getElem?_eq_some_iff.1 hw).1 hn) hk).trans (h k o hk hw ho)
theorem Ct.cell {b : Nat} {w W : World} (h : Ct b w W) {a : Addr} {u : Value} (ha : a.block ≠ b) (hc : w.cell? a = some u) : W.cell? a = some u := by
  have h2 := hc
  unfold World.cell? at h2
  split at h2
  · rename_i c t m hb
    rw [World.cell?_of_block (a := a) ((h _ _ ha hb rfl).trans hb.symm)]
    exact hc
  · cases h2
theorem Ct.k32 {b : Nat} {w W : World} (h : Ct b w W) (hn : NoInt w b) : K32 w W := fun a x hc => h.cell (hn.off hc) hc
theorem Ct.row {b : Nat} {w W : World} (h : Ct b w W) (hn : NoInt w b) {v : Value} {M : List Pt} (hr : RowP w v M) : RowP W v M := by
  obtain ⟨ao, cap, e, h1, h2, h3⟩ := hr
  refine ⟨ao, cap, e, h1, h2, fun j m hj => ?_⟩
  obtain ⟨bb, o, e2, hc⟩ := h3 j m hj
  exact ⟨bb, o, e2, hc.keep (fun a u hu ha => h.cell (by rw [ha]; exact hn.off (a := ⟨bb, o + j * 3, none⟩) hc.1) hu)⟩
theorem Bd.noInt {B b : Nat} {l : List UInt8} {W : World} (h : Bd B b l W) : NoInt W b := by
  obtain ⟨p, v, hp, h1, h2⟩ := h
  have hv : ∃ a n c, v = .slice a n c := by
    rcases h2.2 with ⟨hv, _⟩ | ⟨g, cap, cur, hv, _⟩
    · exact ⟨_, _, _, hv⟩
    · exact ⟨_, _, _, hv⟩
  obtain ⟨a, n, c, rfl⟩ := hv
  intro j k x hc
  rw [cell_of_row W b j _ _ _ h1] at hc
  match j, hc with
  | 0, hc => rcases hp with rfl | rfl <;> simp at hc
  | 1, hc => simp at hc
  | n + 2, hc => simp at hc

theorem string_calls {B b : Nat} {l : List UInt8} {w : World} (h : Bd B b l w) (hB : b ≤ B) : Calls Tryz.prog 77 #[.pointer (some ⟨b, 0, none⟩)] w fun e w' => e = .returned (.string ⟨l.toArray⟩) ∧ Below b w w' ∧ (∀ (k : Nat) (o : Obj), w.heap[k]? = some o → o.isCells = false → w'.heap[k]? = some o) := by
  have hl := h.lib hB
  have hf : Lib.IsBuilderF 117 5 b b (byteCells l) w := hl.imp Lib.BuilderAtF.of Lib.BuilderAtF.of
  refine (Tryz.Builder_String_any_k b b l w hf (Nat.le_of_lt h.lt)).mono ?_
  rintro e w' ⟨he, _, hb, ho⟩
  refine ⟨he, hb, fun k o hk hc => ho k o hk (fun e => ?_) (fun c fz e => ?_)⟩
  · cases e
    obtain ⟨p, v, hp, h1, h2⟩ := h
    rw [h1] at hk
    cases hk
    cases hc
  · subst e
    cases hc

theorem sign_eq {w : World} {v : Value} {z : Int} (hv : BArg w v z) : Calls Tryz.prog 65 #[v] w fun e w' => ∃ s, e = .returned (.int .i64 s) ∧ ((s == 0) = true ↔ z = 0) ∧ Below w.heap.size w w' :=
  (sign_calls hv).mono fun e w' ⟨he, hb⟩ => ⟨sg z, he, by rw [beq_iff_eq, sg_zero_iff], hb⟩

set_option maxHeartbeats 8000000 in
theorem text_calls2 {k : Nat} {w : World} {v : Value} {c : Int} {M : List Pt} (h : TermA k w v c M) (hk : k ≤ 1000) (hk0 : 0 < k) (htab : TabIs Tryz.prog w "internal/strconv.uint64pow10" .u64 pow10Tab) :
    Calls Tryz.prog 43 #[v] w fun e w' => ∃ l, e = .returned (.string ⟨(textL c l).toArray⟩) ∧ NF l ∧ (∀ u, cf u l = cf u (ps M)) ∧ Below w.heap.size w w' := by
  obtain ⟨cn, ca, cL, cc, pa, pl, pc, rfl⟩ := h.form
  have tb := (Thr.new w (.bool cn) (.slice ca cL cc) (.slice pa pl pc) 27).alloc (.cells #[.pointer none, .slice none 0 0] 117)
  have hba : Below w.heap.size w ((w.alloc (.cells #[.bool cn, .slice ca cL cc, .slice pa pl pc] 27)).alloc (.cells #[.pointer none, .slice none 0 0] 117)) := (bel _ _).trans ((bel _ _).mono (by simp))
  have hbd : ∀ C, Bd C (w.heap.size + 1) [] ((w.alloc (.cells #[.bool cn, .slice ca cL cc, .slice pa pl pc] 27)).alloc (.cells #[.pointer none, .slice none 0 0] 117)) := fun C => by
    have h1 := bd_new C (w.alloc (.cells #[.bool cn, .slice ca cL cc, .slice pa pl pc] 27))
    rw [World.size_alloc] at h1
    exact h1
  have hszA : ((w.alloc (.cells #[.bool cn, .slice ca cL cc, .slice pa pl pc] 27)).alloc (.cells #[.pointer none, .slice none 0 0] 117)).heap.size = w.heap.size + 2 := by simp
  generalize hwA : (w.alloc (.cells #[.bool cn, .slice ca cL cc, .slice pa pl pc] 27)).alloc (.cells #[.pointer none, .slice none 0 0] 117) = wA at *
  have hvars := vars_calls (h.below hba) (by omega)
  have HT := hide h
  have HWA := hide hwA
  have TB := hide tb
  have HBA := hide hba
  have HBD := hide hbd
  have HSZA := hide hszA
  have HTAB := hide htab
  obtain ⟨c0, c1, c2, _, _, _⟩ := tb.every
  clear hwA tb hba hbd hszA h htab
  refine calls_of_marks Tryz.func43 rfl ?_
  simp only [Tryz.ntmps43, List.size_toArray, List.length_cons, List.length_nil, Nat.reduceAdd, Nat.reduceSub, Array.replicate_succ, Array.replicate_zero, List.push_toArray, List.append_toArray, List.nil_append, List.cons_append]
  go_upto_region 2 with fail
  rw [HWA.out]
  go_wp2_with fail
  refine hvars.mono ?_
  clear hvars c0 c1 c2
  rintro e w3 ⟨B0, M3, a3, l3, k3, rfl, hu3, hB0, ho3, hg3, hn3, hc3, hb3⟩
  have HU3 := hide hu3
  have HB0 := hide hB0
  have HO3 := hide ho3
  have HG3 := hide hg3
  have HN3 := hide hn3
  have HC3 := hide hc3
  have HB3 := hide hb3
  clear hu3 hB0 ho3 hg3 hn3 hc3 hb3
  go_wp2_with fail
  refine (wpIn_wide (n := 3)).1 ?_
  have HL3 : Hid (M3.length ≤ 1000) := by
    have h1 := len_of HN3.out HC3.out
    have h2 := HT.out.len
    show _ ≤ _
    omega
  have HBN : Hid (Bnd (k + 1000) (ps M3)) := fun p hp => lt_up (nf_bnd HN3.out HC3.out HT.out.bnd.1 p hp) (by rw [ps_length]; have := HT.out.len; omega)
  have HLN : Hid (∀ i, (wrPs (ps (M3.take i))).length ≤ 100000000) := fun i => by
    have h1 := wrPs_len (M := M3.take i) (k := k + 1000) (by omega) (fun p hp => HBN.out p (by
      unfold ps at hp ⊢
      rw [List.map_take] at hp
      exact List.mem_of_mem_take hp)) (fun m hm => (HG3.out m (List.mem_of_mem_take hm)).1)
    have h2 : (M3.take i).length * (10 * (k + 1000) + 30) ≤ 1000 * (10 * (1000 + 1000) + 30) := Nat.mul_le_mul (by rw [List.length_take]; have := HL3.out; omega) (by omega)
    omega
  have HBD3 : Hid (Bd w3.heap.size (w.heap.size + 1) [] w3) := (HBD.out w3.heap.size).below HB3.out
  have HNI : Hid (NoInt w3 (w.heap.size + 1)) := HBD3.out.noInt
  have HS3 : Hid (w.heap.size + 2 ≤ w3.heap.size) := by
    have h1 := HSZA.out
    have h2 := HB3.out.size
    show _ ≤ _
    omega
  have HTB3 := hide (TB.out.keep HB3.out)
  refine range_knownC (gf := 80) (lb := #[.pointer (some ⟨B0, 0, none⟩)]) ?hg (enters_of Tryz.func80 (by kernel_rfl) rfl)
    (vars_hands B0 (.slice a3 l3 k3) M3 HG3.out.sl (by have := HL3.out; omega)) (fun _ => rfl)
    (fun i W => Bd w3.heap.size (w.heap.size + 1) (wrPs (ps (M3.take i))) W ∧ Ct (w.heap.size + 1) w3 W)
    (fun _ _ _ => False) (fun i W W' hj hc => ⟨hj.1.cel hc, hj.2.cel hc⟩) (fun _ _ _ _ h _ => h.elim) w.heap.size w (Nat.le_refl _) (Nat.le_trans HBA.out.size HB3.out.size)
    (fun i W hj => ⟨hj.2.cell (by have := HB0.out; have := HSZA.out; show B0 ≠ _; omega) HU3.out.c0, hj.2.row HNI.out HO3.out.row⟩) ⟨⟨HBD3.out, Ct.refl _ _⟩, bafter HBA.out HB3.out (Nat.le_refl _)⟩
    (fun i => .cells #[.bool (atP M3 i).2.1, (atP M3 i).2.2.1] 24) (fun _ => rfl) ?a1 ?assign ?body ?done ?stop
  case hg => rfl
  case assign =>
    intro l i B W K hi hB hK
    obtain ⟨ma, mL, mc, hsl⟩ := HG3.out.sl (atP M3 i) (by rw [atP_of (List.getElem?_eq_getElem hi)]; exact List.getElem_mem hi)
    unfold varV
    rw [hsl]
    have HSL := hide hsl
    have HBE := hide hB
    generalize hA1 : (atP M3 i).1 = vr at *
    generalize hA2 : (atP M3 i).2.1 = nb at *
    have HA1 := hide hA1
    have HA2 := hide hA2
    clear hsl hB hA1 hA2
    gi_wp2
    have hsl := HSL.out
    have hB := HBE.out
    have hA1 := HA1.out
    have hA2 := HA2.out
    rw [hB]
    subst hA1
    subst hA2
    rw [← hsl]
    exact hK
  case body =>
    rintro l i B W hi ⟨hbd, hct⟩ hbw hB hBlt
    obtain ⟨⟨vr, nb, mv, cz⟩, hm⟩ : ∃ m, M3[i]? = some m := ⟨_, List.getElem?_eq_getElem hi⟩
    obtain ⟨ma, mL, mc, e⟩ := HG3.out.sl _ (List.mem_of_getElem? hm)
    simp only at e
    subst e
    try dsimp only
    rw [atP_of hm] at hB ⊢
    have hB' : Two W B (.bool nb) (.slice ma mL mc) 24 := hB
    have hmem := HG3.out _ (List.mem_of_getElem? hm)
    have hcb : cz.natAbs < R ^ (k + 1000) := HBN.out (vr, cz) (List.mem_map.2 ⟨_, List.mem_of_getElem? hm, rfl⟩)
    have hWn : w3.heap.size ≤ W.heap.size := by have := hB'.lt'; omega
    have HLI := hide (HLN.out i)
    have HLI2 := hide (HLN.out (i + 1))
    have hla : (itoa cz).length ≤ 1000000 := by have := itoa_len hcb (by omega); omega
    have hlv := itoa_len (rng_R hmem.1) (by omega)
    have hBel : ∀ W', BtB w3.heap.size (w.heap.size + 1) W W' → Below w.heap.size w W' := fun W' hb => hbw.trans (hb.below (by have := HS3.out; omega) (by omega))
    have hwn := wn_calls hbd ((hmem.2.k32 (hct.k32 HNI.out)).arg hcb (by omega)) hWn (by have := HS3.out; omega) (by have := HLI.out; omega) (Nat.le_trans hla (by decide)) (tab_keep HTAB.out hbw)
      (fun W' hb => tab_keep HTAB.out (hBel W' hb)) (fun W' hb => (hmem.2.k32 ((hct.btb (Nat.le_refl _) hb).k32 HNI.out)).arg hcb (by omega))
    have HBEL := hide hBel
    have HCT := hide hct
    have HM := hide hm
    have HRG := hide hmem.1
    have HWN := hide hWn
    have HLA := hide hla
    have HLV := hide hlv
    obtain ⟨b0, b1, _, _, _, _⟩ := hB'.every
    clear hB hB' hmem hcb hbw hBel hct hm hbd hWn hla hlv
    gi_wp2_with fail
    refine ⟨trivial, ?_⟩
    refine (CallsIn.inRound l (callsIn_wide.2 hwn)).mono ?_
    rintro e w4 ⟨⟨rv, rfl⟩, hd4, hf4⟩
    have HF4 := hide hf4
    have HW4 : Hid (w3.heap.size ≤ w4.heap.size) := Nat.le_trans HWN.out hf4.size
    have HL4 : Hid ((wrN (wrPs (ps (M3.take i))) cz).length ≤ 200000000) := by
      have h1 := HLI.out
      have h2 := HLA.out
      show (wrN _ cz).length ≤ _
      unfold wrN
      split <;> simp <;> omega
    have hws := ws_calls hd4 [42, 120] (by have := HL4.out; simp; omega) HW4.out
    clear hwn hd4 hf4 b0 b1
    gi_wp2_with fail
    refine ⟨trivial, ?_⟩
    refine (CallsIn.inRound l (callsIn_wide.2 hws)).mono ?_
    rintro e w5 ⟨rfl, hd5, hf5⟩
    have HF5 := hide (HF4.out.trans hf5)
    have HD5 := hide hd5
    have HW5 : Hid (w3.heap.size ≤ w5.heap.size) := Nat.le_trans HW4.out hf5.size
    have hit := Tryz.strconv_Itoa vr HRG.out.1 HRG.out.2 w5 (tab_keep HTAB.out (HBEL.out _ HF5.out))
    clear hws hd5 hf5
    gi_wp2_with fail
    refine ⟨trivial, ?_⟩
    refine (CallsIn.inRound l (callsIn_wide.2 hit)).mono ?_
    rintro e w6 ⟨rfl, q, os, hw6⟩
    have hb6 : Below w5.heap.size w5 w6 := by
      rw [hw6]
      exact below_grow _ _ (Nat.le_refl _) _ _
    have HF6 := hide (HF5.out.trans (BtB.of hb6 HW5.out))
    have HW6 : Hid (w3.heap.size ≤ w6.heap.size) := Nat.le_trans HW5.out hb6.size
    have hws := ws_calls (HD5.out.below hb6) (itoa vr) (by have := HL4.out; have := HLV.out; simp; omega) HW6.out
    clear hit hw6 hb6
    gi_wp2_with fail
    refine ⟨trivial, ?_⟩
    refine (CallsIn.inRound l (callsIn_wide.2 hws)).mono ?_
    rintro e w7 ⟨rfl, hd7, hf7⟩
    have HD7 := hide hd7
    have HF7 := hide (HF6.out.trans hf7)
    clear hws hd7 hf7
    gi_wp2
    refine ⟨HF7.out.oth.from _, ⟨?_, HCT.out.btb (Nat.le_refl _) HF7.out⟩, HBEL.out _ HF7.out⟩
    rw [wrPs_step HM.out]
    exact HD7.out
  case done =>
    rintro D W hD ⟨hbd, hct⟩ hbw hK
    rw [List.take_length] at hbd
    have hWn : w3.heap.size ≤ W.heap.size := by have := (Array.getElem?_eq_some_iff.1 hK).1; omega
    have HWNW := hide hWn
    have HLL : Hid ((wrPs (ps M3)).length ≤ 100000000) := by
      have h1 := HLN.out M3.length
      rw [List.take_length] at h1
      exact h1
    have HIT : Hid ((itoa c).length ≤ 1000000000) := by
      have h1 := itoa_len HT.out.bnd.2 hk0
      show _ ≤ _
      omega
    have HNUM : Hid (∀ W', Below w.heap.size w W' → BArg W' (.agg #[.bool cn, .slice ca cL cc]) c) := fun W' hb => HT.out.num.below hb
    have htb : Thr W w.heap.size (.bool cn) (.slice ca cL cc) (.slice pa pl pc) 27 := hct _ _ (by omega) HTB3.out rfl
    obtain ⟨c0, c1, c2, _, _, _⟩ := htb.every
    have HTBW := hide htb
    have HBDW := hide hbd
    have HBWW := hide hbw
    have HKW := hide hK
    have HD := hide hD
    have hlen := Tryz.Builder_Len (w.heap.size + 1) (w.heap.size + 1) (byteCells (wrPs (ps M3))) W (hbd.lib (by have := HS3.out; omega))
    obtain ⟨TL, hTL⟩ : ∃ TL, TL = textL c (ps M3) := ⟨_, rfl⟩
    have HTL := hide hTL
    clear htb hbd hbw hK hD hct hWn hTL
    by_cases ha : wrPs (ps M3) = []
    · have HTE : Hid (wrN [] c = TL) := by
        show _ = _
        rw [HTL.out]
        unfold textL
        rw [if_pos (.inl ha), ha]
      rw [ha] at hlen HBDW HLL
      have hlen2 : Calls Tryz.prog 76 #[.pointer (some ⟨w.heap.size + 1, 0, none⟩)] W fun e w' => e = .returned (.int .i64 0) ∧ w' = W := by simpa [byteCells] using hlen
      clear hlen ha
      go_wp2_with fail
      refine hlen2.mono ?_
      rintro e w4 ⟨rfl, hw4⟩
      rw [hw4]
      clear hw4 hlen2
      go_wp2_with fail
      refine (wn_calls HBDW.out (HNUM.out W HBWW.out) HWNW.out (by have := HS3.out; omega) (by have := HLL.out; first | omega | simp) HIT.out (tab_keep HTAB.out HBWW.out)
        (fun W' hb => tab_keep HTAB.out (HBWW.out.trans (hb.below (by have := HS3.out; omega) (by omega)))) (fun W' hb => HNUM.out W' (HBWW.out.trans (hb.below (by have := HS3.out; omega) (by omega))))).mono ?_
      rintro e w7 ⟨⟨rv, rfl⟩, hd7, hf7⟩
      rw [HTE.out] at hd7
      have HD7 := hide hd7
      have HB7 := hide (HBWW.out.trans (hf7.below (by have := HS3.out; omega) (by omega) : Below w.heap.size W w7))
      have HK7 := hide (hf7.oth.same D _ HKW.out rfl)
      clear hd7 hf7
      go_wp2_with fail
      refine (string_calls HD7.out (by have := HS3.out; omega)).mono ?_
      rintro e w8 ⟨rfl, hb8, ho8⟩
      have HK8 := hide (ho8 D _ HK7.out rfl)
      have HB8 := hide (HB7.out.trans (hb8.mono (by omega)))
      clear hb8 ho8
      go_wp2
      refine ⟨by simp, .inl ⟨_, _, rfl, run_takeDeferred HK8.out, ?_⟩⟩
      refine ⟨.string ⟨TL.toArray⟩, ?_, ps M3, by rw [HTL.out], HN3.out, HC3.out, HB8.out.trans (belowK_b (w := w) (Nat.le_refl _) _ D _ _ (by have := HD.out; have := HS3.out; omega) HK8.out rfl rfl)⟩
      simp [results, Tryz.f43, go_sem]
    · have hl1 := isLong ha
      have hl2 : (((byteCells (wrPs (ps M3))).length : Int) == 0) = false := beq_eq_false_iff_ne.2 (by omega)
      generalize hbl : ((byteCells (wrPs (ps M3))).length : Int) = bl at *
      have HSG := hide (sign_eq (HNUM.out W HBWW.out))
      by_cases hc0 : c = 0
      · have HTE : Hid (wrPs (ps M3) = TL) := by
          show _ = _
          rw [HTL.out]
          unfold textL
          rw [if_neg (fun h => h.elim ha (fun h => h hc0))]
        have HC0 := hide hc0
        have HA0 := hide ha
        clear ha hbl hc0
        go_wp2_with fail
        refine hlen.mono ?_
        rintro e w4 ⟨rfl, hw4⟩
        rw [hw4]
        clear hw4 hlen
        go_wp2_with fail
        refine HSG.out.mono ?_
        rintro e w7 ⟨s, rfl, hs, hb7⟩
        have hs0 : s = 0 := by simpa using hs.2 HC0.out
        subst hs0
        have HD7 : Hid (Bd w3.heap.size (w.heap.size + 1) TL w7) := by
          show Bd _ _ _ _
          rw [← HTE.out]
          exact HBDW.out.below hb7
        have HB7 := hide (bafter HBWW.out hb7 (Nat.le_refl _))
        have HK7 : Hid (w7.heap[D]? = some (.deferred (some []))) := (hb7.block D (Array.getElem?_eq_some_iff.1 HKW.out).1).trans HKW.out
        clear hb7 hs
        go_wp2_with fail
        refine (string_calls HD7.out (by have := HS3.out; omega)).mono ?_
        rintro e w8 ⟨rfl, hb8, ho8⟩
        have HK8 := hide (ho8 D _ HK7.out rfl)
        have HB8 := hide (HB7.out.trans (hb8.mono (by omega)))
        clear hb8 ho8
        go_wp2
        refine ⟨by simp, .inl ⟨_, _, rfl, run_takeDeferred HK8.out, ?_⟩⟩
        refine ⟨.string ⟨TL.toArray⟩, ?_, ps M3, by rw [HTL.out], HN3.out, HC3.out, HB8.out.trans (belowK_b (w := w) (Nat.le_refl _) _ D _ _ (by have := HD.out; have := HS3.out; omega) HK8.out rfl rfl)⟩
        simp [results, Tryz.f43, go_sem]
      · have HTE : Hid (wrN (wrPs (ps M3)) c = TL) := by
          show _ = _
          rw [HTL.out]
          unfold textL
          rw [if_pos (.inr hc0)]
        have HC0 := hide hc0
        have HA0 := hide ha
        clear ha hbl hc0
        go_wp2_with fail
        refine hlen.mono ?_
        rintro e w4 ⟨rfl, hw4⟩
        rw [hw4]
        clear hw4 hlen
        go_wp2_with fail
        refine HSG.out.mono ?_
        rintro e w5 ⟨s, rfl, hs, hb5⟩
        have hs0 : (s == 0) = false := by
          cases hq : (s == 0) with
          | false => rfl
          | true => exact absurd (hs.1 hq) HC0.out
        have hs1 : (s != 0) = true := by rw [bne, hs0]; rfl
        have HBD5 := hide (HBDW.out.below hb5)
        have HB5 := hide (bafter HBWW.out hb5 (Nat.le_refl _))
        have HKw5 : Hid (w5.heap[D]? = some (.deferred (some []))) := (hb5.block D (Array.getElem?_eq_some_iff.1 HKW.out).1).trans HKW.out
        have HWNw5 : Hid (w3.heap.size ≤ w5.heap.size) := Nat.le_trans HWNW.out hb5.size
        obtain ⟨x0, x1, x2, _, _, _⟩ := (HTBW.out.keep hb5).every
        clear hb5 hs c0 c1 c2
        go_wp2_with fail
        refine (wn_calls HBD5.out (HNUM.out w5 HB5.out) HWNw5.out (by have := HS3.out; omega) (by have := HLL.out; first | omega | simp) HIT.out (tab_keep HTAB.out HB5.out)
          (fun W' hb => tab_keep HTAB.out (HB5.out.trans (hb.below (by have := HS3.out; omega) (by omega)))) (fun W' hb => HNUM.out W' (HB5.out.trans (hb.below (by have := HS3.out; omega) (by omega))))).mono ?_
        rintro e w7 ⟨⟨rv, rfl⟩, hd7, hf7⟩
        rw [HTE.out] at hd7
        have HD7 := hide hd7
        have HB7 := hide (HB5.out.trans (hf7.below (by have := HS3.out; omega) (by omega) : Below w.heap.size w5 w7))
        have HK7 := hide (hf7.oth.same D _ HKw5.out rfl)
        clear hd7 hf7
        go_wp2_with fail
        refine (string_calls HD7.out (by have := HS3.out; omega)).mono ?_
        rintro e w8 ⟨rfl, hb8, ho8⟩
        have HK8 := hide (ho8 D _ HK7.out rfl)
        have HB8 := hide (HB7.out.trans (hb8.mono (by omega)))
        clear hb8 ho8
        go_wp2
        refine ⟨by simp, .inl ⟨_, _, rfl, run_takeDeferred HK8.out, ?_⟩⟩
        refine ⟨.string ⟨TL.toArray⟩, ?_, ps M3, by rw [HTL.out], HN3.out, HC3.out, HB8.out.trans (belowK_b (w := w) (Nat.le_refl _) _ D _ _ (by have := HD.out; have := HS3.out; omega) HK8.out rfl rfl)⟩
        simp [results, Tryz.f43, go_sem]
  case stop => exact fun D c k W hD hk h hb hK => h.elim

end Go.Proofs.YtbjolmgobeagoaaGreatDoor
