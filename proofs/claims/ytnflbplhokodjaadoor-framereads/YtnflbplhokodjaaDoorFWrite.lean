/- Frame: Write: a message's bytes. -/
import Derived.Test.YtnflbplhokodjaaDoorFRow
import Derived.Laws.IdiomStrings
import Derived.Laws.IdiomCopy
import Derived.ArgAppend
import Derived.Lib.AppendIntMem
namespace Go.Proofs.YtnflbplhokodjaaDoor
set_option linter.unusedVariables false
set_option linter.unusedSimpArgs false
set_option maxRecDepth 100000
open Go Go.RowKit Go.Shelf Go.Lib

theorem feed_count (s : St) (T : List Nat) : (feedL s T).2.length ≤ T.length := by
  induction T generalizing s with
  | nil => exact Nat.le_refl _
  | cons c l ih =>
    have h1 : (stepF s c).2.length ≤ 1 := by
      cases s with
      | nothing => exact Nat.zero_le _
      | skip n => show (if n ≤ 1 then (St.head hd0, []) else (.skip (n - 1), [])).2.length ≤ 1; split <;> simp
      | body n g => show (if n ≤ 1 then (St.head hd0, [(1, g ++ [c])]) else (.body (n - 1) (g ++ [c]), [])).2.length ≤ 1; split <;> simp
      | head h =>
        rcases hq : addL h c with ⟨q, h'⟩
        cases q with
        | opn => rw [step_open hq]; simp
        | none => rw [step_none hq]; simp
        | whole =>
          rw [step_whole hq]
          unfold beginL
          split
          · simp
          · split <;> simp
    have h2 := ih (stepF s c).1
    show ((stepF s c).2 ++ (feedL (stepF s c).1 l).2).length ≤ l.length + 1
    rw [List.length_append]
    omega

theorem strOf_size (T : List Nat) : (strOf T).size = T.length := by simp [strOf, ByteArray.size]
theorem bytesRow_size (s : ByteArray) (cap : Nat) (h : s.size ≤ cap) : (bytesRow s cap).size = cap := by
  unfold bytesRow
  simp
  have : s.data.size = s.size := rfl
  omega
/-- The bytes of a string, in memory of their own, with room behind them. -/
theorem conv_str (w : World) (T : List Nat) (hT : ∀ x ∈ T, x < 256) : ∃ cap w', (convert 9 25 (.string (strOf T))).run Tryd.prog w = .ok (.slice (some ⟨w.heap.size, 0, none⟩) T.length cap) w' ∧ Byts w' (.slice (some ⟨w.heap.size, 0, none⟩) T.length cap) T ∧ T.length ≤ cap ∧ Below w.heap.size w w' ∧ w'.heap.size = w.heap.size + 1 ∧ ∀ j, j < cap → (w'.cell? ⟨w.heap.size, j, none⟩).isSome = true ∧ w'.frozen? ⟨w.heap.size, j, none⟩ = false := by
  have h := run_bytes_of_string (P := Tryd.prog) w 9 25 5 (strOf T) Tryd.underlying9 Tryd.underlying25 Tryd.underlying5
  rw [strOf_size] at h
  have hge := grownCap_ge w T.length 0 5
  generalize grownCap w T.length 0 5 = cap at h hge
  have hsz := bytesRow_size (strOf T) cap (by rw [strOf_size]; exact hge)
  have hh := World.alloc_heap_new w.drew (.cells (bytesRow (strOf T) cap) 5 ((bytesRow (strOf T) cap).size, (bytesRow (strOf T) cap).size + 1))
  refine ⟨cap, _, h, ⟨_, cap, rfl, hT, fun j hj => ⟨w.heap.size, 0, rfl, ?_⟩⟩, hge, (Below.refl _ w).drew.alloc (Nat.le_refl _) _, by simp, fun j hj => ⟨?_, ?_⟩⟩
  · have hj' : j < (strOf T).data.size := by simp [strOf]; exact hj
    have hb := bytesRow_at (strOf T) cap j hj'
    simp only [World.cell?, Nat.zero_add]
    rw [show w.heap.size = w.drew.heap.size from rfl, hh]
    simp only [hb]
    have hx : T[j] < 256 := hT _ (List.getElem_mem hj)
    simp [strOf, nth, hj]
    omega
  · simp only [World.cell?]
    rw [show w.heap.size = w.drew.heap.size from rfl, hh]
    have : j < (bytesRow (strOf T) cap).size := by omega
    simp [this]
  · simp only [World.frozen?]
    rw [show w.heap.size = w.drew.heap.size from rfl, hh]
    simp
    omega

theorem below_setCells (n B : Nat) (hB : n ≤ B) : ∀ (vs : List Value) (o : Nat) (w : World), Below n w (w.setCells B o vs)
  | [], o, w => Below.refl _ _
  | v :: vs, o, w => ((Below.refl n w).setCell (p := ⟨B, o, none⟩) hB v).trans (below_setCells n B hB vs (o + 1) _)

/-- Bytes behind bytes that have room behind them. -/
theorem append_bytes (w : World) (ty : TypeId) (B cap : Nat) (xs : List Nat) (hX : Byts w (.slice (some ⟨B, 0, none⟩) xs.length cap) xs) (hcap : xs.length ≤ cap) (hsp : ∀ j, j < cap → (w.cell? ⟨B, j, none⟩).isSome = true ∧ w.frozen? ⟨B, j, none⟩ = false)
    (yo : Option Addr) (yc : Nat) (ys : List Nat) (hY : Byts w (.slice yo ys.length yc) ys) (hsum : xs.length + ys.length ≤ 1000000000) :
    ∃ v' w' a' c', (Builtin.append_ #[25, 25] ty #[.slice (some ⟨B, 0, none⟩) xs.length cap, .slice yo ys.length yc]).run Tryd.prog w = .ok v' w' ∧ v' = .slice (some a') (xs.length + ys.length) c' ∧ Byts w' v' (xs ++ ys) ∧ xs.length + ys.length ≤ c' ∧ (a'.block = B ∨ w.heap.size ≤ a'.block) ∧ ∀ n, n ≤ B → n ≤ w.heap.size → Below n w w' := by
  obtain ⟨i0, hi, hz0, hz1, hz2⟩ := info_parts infoByte
  have hsm : ∀ x ∈ xs ++ ys, x < 256 := fun x hx => by
    rcases List.mem_append.1 hx with q | q
    · exact hX.small x q
    · exact hY.small x q
  have hlen : (xs ++ ys).length = xs.length + ys.length := List.length_append
  obtain ⟨xo, xc, e, _, hx⟩ := hX
  cases e
  have hxc : ∀ j, j < xs.length → w.cell? ⟨B, j, none⟩ = some (.int .u8 ((nth xs j : Nat) : Int)) := fun j hj => by
    obtain ⟨b, o, e, h⟩ := hx j hj
    cases e
    rw [Nat.zero_add] at h
    exact h
  obtain ⟨yo', yc', e, hys, hy⟩ := hY
  cases e
  cases yo with
  | none =>
    have hz : ys = [] := by
      cases ys with
      | nil => rfl
      | cons y l => obtain ⟨b, off, e, _⟩ := hy 0 (by simp); cases e
    subst hz
    refine ⟨_, w, ⟨B, 0, none⟩, cap, ?_, rfl, ⟨_, _, by rw [hlen], hsm, fun j hj => ⟨B, 0, rfl, ?_⟩⟩, by simpa using hcap, .inl rfl, fun n _ _ => Below.refl _ _⟩
    · have hnc : xs.length ≤ cap := hcap
      simp [Builtin.append_, run_underlying Tryd.underlying25, sizeOf, typeInfo, hi, Builtin.lenOf, Builtin.firstCells, hnc, storeCells]
    · simp at hj ⊢
      exact hxc j hj
  | some ad =>
    have hnews : ∀ j u, (u8s ys)[j]? = some u → w.cell? (ad.add j) = some u := by
      intro j u hj
      have hj2 : j < ys.length := by
        have := (List.getElem?_eq_some_iff.1 hj).1
        rw [u8s_length] at this
        exact this
      obtain ⟨b, off, e, hc⟩ := hy j hj2
      cases e
      rw [addr_add', hc]
      simp [u8s, hj2] at hj
      simp [nth, hj2, hj]
    have hone : ∀ u ∈ u8s ys, u.oneCell' = true := by
      intro u hu
      obtain ⟨z, _, rfl⟩ := List.mem_map.1 hu
      rfl
    by_cases hroom : xs.length + ys.length ≤ cap
    · have hr := run_append_room_cells (P := Tryd.prog) w 25 ty 5 i0 Tryd.underlying25 hi B 0 xs.length cap ad ys.length yc (u8s ys) (by rw [hz1]; simp [u8s]) hnews hone hroom (fun j hj => by
        rw [u8s_length] at hj
        rw [hz1, Nat.zero_add, Nat.mul_one]
        exact (hsp (xs.length + j) (by omega)).1) (fun j hj => by
        rw [u8s_length] at hj
        rw [hz1, Nat.zero_add, Nat.mul_one]
        exact (hsp (xs.length + j) (by omega)).2)
      rw [hz1, Nat.zero_add, Nat.mul_one] at hr
      refine ⟨_, _, ⟨B, 0, none⟩, cap, hr, rfl, ⟨_, _, by rw [hlen], hsm, fun j hj => ⟨B, 0, rfl, ?_⟩⟩, hroom, .inl rfl, fun n hn _ => below_setCells n B hn _ _ _⟩
      rw [hlen] at hj
      rw [Nat.zero_add]
      by_cases hjx : j < xs.length
      · rw [World.cell?_setCells_out B (u8s ys) xs.length w ⟨B, j, none⟩ (fun _ _ => .inl hjx), hxc j hjx]
        simp [nth, List.getElem?_append_left hjx]
      · obtain ⟨k, rfl⟩ : ∃ k, j = xs.length + k := ⟨j - xs.length, by omega⟩
        have hk : k < (u8s ys).length := by rw [u8s_length]; omega
        rw [World.cell?_setCells_in B (u8s ys) xs.length w (fun j hj => by
          rw [u8s_length] at hj
          exact (hsp (xs.length + j) (by omega)).1) k hk]
        have hk' : k < ys.length := by rw [u8s_length] at hk; exact hk
        simp [u8s, nth, hk']
    · obtain ⟨v', w', hr, ho, hg⟩ := run_append_arg_grows (P := Tryd.prog) w 25 ty 5 i0 (.int .u8 0) 1 1 Tryd.underlying25 hi hz0 hz1 hz2 rfl (by decide) ⟨B, 0, none⟩ xs.length cap (u8s xs) (by simp [u8s]) (by
        intro j u hj
        have hj2 : j < xs.length := by
          have := (List.getElem?_eq_some_iff.1 hj).1
          rw [u8s_length] at this
          exact this
        rw [addr_add', Nat.zero_add, hxc j hj2]
        simp [u8s, hj2] at hj
        simp [nth, hj2, hj]) ad ys.length yc (u8s ys) (by simp [u8s]) hnews (by omega) (by unfold maxLen; omega) (by omega)
      have ho' : OwnB w.heap.size w' v' (xs ++ ys) := by
        unfold OwnB
        rw [hlen, u8s_append]
        exact ho
      obtain ⟨a2, c2, hv, hB2, hc2, hn2, _, hblk⟩ := own_byts hsm ho'
      have hlt := World.ownsRow.lt ho
      cases a2 with
      | none =>
        have := hn2 rfl
        have h0 := hc2
        omega
      | some a2 =>
        have hb := hblk a2 rfl
        exact ⟨v', w', a2, c2, hr, by rw [hv, hlen], by rw [hv]; exact hB2, by rw [← hlen]; exact hc2, .inr (hlt _ hb).1, fun n _ hn => (Below.refl n w).grown hg hn (fun j e => by cases e)⟩

/-- The digits of a number, as bytes. -/
def digL (n : Nat) : List Nat := (decDigits n).map UInt8.toNat
theorem digL_small {n : Nat} (h : n < 10) : digL n = [48 + n] := by
  unfold digL
  rw [decDigits, dif_pos h]
  simp
  omega
theorem digL_big {n : Nat} (h : ¬ n < 10) : digL n = digL (n / 10) ++ [48 + n % 10] := by
  unfold digL
  rw [decDigits, dif_neg h, List.map_append]
  simp
  omega
theorem digL_facts : ∀ (m n : Nat), n ≤ m → Digs (digL n) ∧ 1 ≤ (digL n).length ∧ (∀ k, n < 10 ^ (k + 1) → (digL n).length ≤ k + 1) ∧ ∀ a l, numF a (digL n ++ l) = numF (a * 10 ^ (digL n).length + n) l := by
  intro m
  induction m with
  | zero =>
    intro n hn
    obtain rfl : n = 0 := by omega
    rw [digL_small (by decide)]
    exact ⟨fun c hc => by simp at hc; omega, by decide, fun k _ => by simp, fun a l => by
      show (if _ then _ else _) = _
      rw [if_pos (by decide)]
      simp [Nat.mul_comm]⟩
  | succ m ih =>
    intro n hn
    by_cases h : n < 10
    · rw [digL_small h]
      exact ⟨fun c hc => by simp at hc; omega, by simp, fun k _ => by simp, fun a l => by
        show (if _ then _ else _) = _
        rw [if_pos (by omega)]
        congr 1
        simp
        omega⟩
    · obtain ⟨i1, i2, i3, i4⟩ := ih (n / 10) (by omega)
      rw [digL_big h]
      refine ⟨fun c hc => ?_, by simp, fun k hk => ?_, fun a l => ?_⟩
      · rcases List.mem_append.1 hc with q | q
        · exact i1 c q
        · simp at q; omega
      · rw [List.length_append]
        cases k with
        | zero => simp at hk; omega
        | succ k =>
          have := i3 k (by rw [Nat.pow_succ] at hk; omega)
          simp
          omega
      · rw [List.append_assoc, i4]
        show (if _ then _ else _) = _
        rw [if_pos (by omega)]
        congr 1
        rw [List.length_append, show ([48 + n % 10] : List Nat).length = 1 from rfl, Nat.pow_succ]
        rw [show 10 * (a * 10 ^ (digL (n / 10)).length + n / 10) = a * (10 ^ (digL (n / 10)).length * 10) + 10 * (n / 10) by rw [Nat.mul_add, Nat.mul_comm 10 (a * _), Nat.mul_assoc]]
        omega
theorem digL_ok {n : Nat} (h : n < 10000000000) : Digs (digL n) ∧ 1 ≤ (digL n).length ∧ (digL n).length ≤ 10 ∧ numF 0 (digL n) = some n := by
  obtain ⟨h1, h2, h3, h4⟩ := digL_facts n n (Nat.le_refl _)
  refine ⟨h1, h2, h3 9 (by omega), ?_⟩
  have := h4 0 []
  rw [List.append_nil] at this
  rw [this]
  simp [numF]
theorem digL_str (n : Nat) : (⟨(decDigits n).toArray⟩ : ByteArray) = strOf (digL n) := by
  unfold strOf digL
  congr 1
  rw [List.map_map]
  have : (UInt8.ofNat ∘ UInt8.toNat) = id := by funext x; simp
  rw [this, List.map_id]
theorem strOf_append (A B : List Nat) : strOf A ++ strOf B = strOf (A ++ B) := by
  apply ByteArray.ext
  simp [strOf]
def preName : List Nat := capName ++ [58, 32]
theorem pre_str : (⟨#[67, 111, 110, 116, 101, 110, 116, 45, 76, 101, 110, 103, 116, 104, 58, 32]⟩ : ByteArray) = strOf preName := rfl
theorem post_str : (⟨#[13, 10, 13, 10]⟩ : ByteArray) = strOf [13, 10, 13, 10] := rfl
theorem head_eq (D : List Nat) : preName ++ D ++ [13, 10, 13, 10] = headL D := by
  unfold headL preName
  simp
theorem head_small {D : List Nat} (h : Digs D) : ∀ x ∈ headL D, x < 256 := by
  intro x hx
  unfold headL at hx
  have hc : ∀ y ∈ capName, y < 256 := by decide
  simp only [List.mem_append, List.mem_cons] at hx
  rcases hx with (q | q | q | q) | q
  · exact hc x q
  · omega
  · omega
  · have := h x q; omega
  · simp at q; omega
theorem head_length (D : List Nat) : (headL D).length = 20 + D.length := by simp [headL, capName]; omega

/-- The table of powers. -/
def Pow (w : World) : Prop := Lib.TabIs Tryd.prog w "internal/strconv.uint64pow10" .u64 Lib.pow10Tab
theorem Pow.below {n : Nat} {w w' : World} (h : Pow w) (hg : 0 < n) (hb : Below n w w') : Pow w' := by
  unfold Pow Lib.TabIs World.var? at *
  have e : Tryd.prog.globalNamed "internal/strconv.uint64pow10" = some 0 := by kernel_rfl
  rw [e] at h ⊢
  simp only [Option.bind_some] at h ⊢
  rw [hb.block 0 hg]
  exact h
theorem Pow.lt {w : World} (h : Pow w) : 0 < w.heap.size := by
  unfold Pow Lib.TabIs World.var? at h
  have e : Tryd.prog.globalNamed "internal/strconv.uint64pow10" = some 0 := by kernel_rfl
  rw [e] at h
  simp only [Option.bind_some] at h
  rcases Nat.lt_or_ge 0 w.heap.size with q | q
  · exact q
  · rw [Array.getElem?_eq_none q] at h
    simp at h

set_option maxHeartbeats 4000000 in
theorem write_calls (w : World) (ao : Option Addr) (cap : Nat) (T : List Nat) (h : Byts w (.slice ao T.length cap) T) (hlen : T.length ≤ 100000000) (hP : Pow w) :
    Calls Tryd.prog 15 #[.slice ao T.length cap] w fun e w' => ∃ a' c', e = .returned (.slice (some a') (headL (digL T.length) ++ T).length c') ∧ Byts w' (.slice (some a') (headL (digL T.length) ++ T).length c') (headL (digL T.length) ++ T) ∧ (headL (digL T.length) ++ T).length ≤ c' ∧ w.heap.size ≤ a'.block ∧ Below w.heap.size w w' := by
  have HI := hide (Tryd.strconv_Itoa (T.length : Int) (by omega) (by omega) w hP)
  have HT := hide h
  obtain ⟨d1, d2, d3, _⟩ := digL_ok (n := T.length) (by omega)
  have HD := hide (head_small d1)
  have HDL := hide (head_length (digL T.length))
  have HD3 := hide d3
  have hit : Lib.itoa (T.length : Int) = decDigits T.length := by
    unfold Lib.itoa
    rw [if_neg (by omega)]
    rfl
  rw [hit, digL_str] at HI
  clear h hP d1 d2 d3 hit
  have HS1 : Hid ((⟨#[67, 111, 110, 116, 101, 110, 116, 45, 76, 101, 110, 103, 116, 104, 58, 32]⟩ : ByteArray) ++ strOf (digL T.length) ++ (⟨#[13, 10, 13, 10]⟩ : ByteArray) = strOf (headL (digL T.length))) := by
    show _ = _
    rw [pre_str, post_str, strOf_append, strOf_append, head_eq]
  have hsd : (strOf (digL T.length)).size ≤ 10 := by rw [strOf_size]; exact HD3.out
  generalize digL T.length = D at *
  generalize strOf D = sD at *
  have q1 : ∀ W : World, (Op.stringOp .add (⟨#[67, 111, 110, 116, 101, 110, 116, 45, 76, 101, 110, 103, 116, 104, 58, 32]⟩ : ByteArray) sD).run Tryd.prog W = .ok (.string ((⟨#[67, 111, 110, 116, 101, 110, 116, 45, 76, 101, 110, 103, 116, 104, 58, 32]⟩ : ByteArray) ++ sD)) W := fun W => run_string_add_sum W _ sD (by show 16 + sD.size ≤ _; omega)
  have q2 : ∀ W : World, (Op.stringOp .add ((⟨#[67, 111, 110, 116, 101, 110, 116, 45, 76, 101, 110, 103, 116, 104, 58, 32]⟩ : ByteArray) ++ sD) (⟨#[13, 10, 13, 10]⟩ : ByteArray)).run Tryd.prog W = .ok (.string ((⟨#[67, 111, 110, 116, 101, 110, 116, 45, 76, 101, 110, 103, 116, 104, 58, 32]⟩ : ByteArray) ++ sD ++ (⟨#[13, 10, 13, 10]⟩ : ByteArray))) W := fun W => run_string_add_sum W _ _ (by rw [ByteArray.size_append]; show 16 + sD.size + 4 ≤ _; omega)
  go_enter Tryd.func15, Tryd.ntmps15
  go_wp2_with fail
  refine HI.out.mono ?_
  rintro e w1 ⟨rfl, k, os, hw1⟩
  have hb1 : Below w.heap.size w w1 := by rw [hw1]; exact below_grow _ _ (Nat.le_refl _) _ _
  have HB1 := hide hb1
  clear hw1 HI
  obtain ⟨cp, w2, hcv, hby, hcp, hb2, hs2, hsp⟩ := conv_str w1 (headL D) HD.out
  have HB2 := hide (bafter HB1.out hb2 (Nat.le_refl _))
  have HT2 := hide ((HT.out.below HB1.out).below hb2)
  have hap := fun ty => append_bytes w2 ty w1.heap.size cp (headL D) hby hcp hsp ao cap T HT2.out (by have := HDL.out; have := HD3.out; omega)
  rw [← HS1.out] at hcv
  have HAP := hide hap
  have HLN := hide (show (headL D).length + T.length = (headL D ++ T).length from List.length_append.symm)
  have HW1 : Hid (w.heap.size ≤ w1.heap.size ∧ w.heap.size ≤ w2.heap.size) := ⟨HB1.out.size, HB2.out.size⟩
  clear hap hby hcp hsp hb1 hb2 hs2
  generalize hnl : (headL D).length = nl at *
  clear hnl
  obtain ⟨v', w3, a', c', hrun, hv', hB3, hc3, hblk, hbel⟩ := HAP.out 25
  go_wp2_with (at_builtin; go_must (refine Lib.wpList_append_run _ rfl _ _ _ _ rfl _ _ rfl rfl _ _ hrun ?_))
  go_ret
  subst hv'
  rw [HLN.out] at hB3 hc3
  refine ⟨a', c', by rw [← HLN.out]; rfl, hB3, hc3, ?_, HB2.out.trans (hbel _ HW1.out.1 HW1.out.2)⟩
  rcases hblk with q | q
  · rw [q]; exact HW1.out.1
  · exact Nat.le_trans HW1.out.2 q

end Go.Proofs.YtnflbplhokodjaaDoor
