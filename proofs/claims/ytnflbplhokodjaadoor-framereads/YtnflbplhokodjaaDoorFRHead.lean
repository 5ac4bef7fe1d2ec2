/- Frame: the reference's Header. -/
import Derived.Test.YtnflbplhokodjaaDoorFRLen
import Derived.Test.YtnflbplhokodjaaDoorFAdd2
namespace Go.Proofs.YtnflbplhokodjaaDoor
set_option linter.unusedVariables false
set_option linter.unusedSimpArgs false
set_option maxRecDepth 100000
open Go Go.RowKit Go.Shelf Go.Lib

theorem results_tmp4 {fn : Func} {t u v x : Tmp} (h : fn.results = #[.tmp t, .tmp u, .tmp v, .tmp x]) (tmps : Array Value) (P : Program) (w : World) :
    (results fn tmps).run P w = .ok (.tuple #[tmps.getD t undef, tmps.getD u undef, tmps.getD v undef, tmps.getD x undef]) w := by
  simp [results, h]
def HR.shift (n : Nat) : HR → HR
  | .opn h => .opn h
  | .whole k m => .whole (k + n) m
  | .broken k => .broken (k + n)
theorem HR.shift_later (n : Nat) (r : HR) : r.later.shift n = r.shift (n + 1) := by
  cases r <;> simp [HR.later, HR.shift] <;> omega
theorem HR.shift_zero (r : HR) : r.shift 0 = r := by cases r <;> rfl
def HeadR (B : List Nat) (f : Nat) (e : Ending) : Prop := match runH hd0 (B.drop f) with
  | .opn _ => e = .returned (.tuple #[.bool false, .bool false, .int .i64 0, .int .i64 0])
  | .whole k n => e = .returned (.tuple #[.bool true, .bool false, .int .i64 ((f + k : Nat) : Int), .int .i64 (n : Int)])
  | .broken k => e = .returned (.tuple #[.bool false, .bool true, .int .i64 ((f + k : Nat) : Int), .int .i64 0])
/-- A header under way: its bytes from f to i, its line from s. -/
def hdAt (B : List Nat) (f s i : Nat) (told : Option Nat) : Hd := ⟨i - f, (B.drop s).take (i - s), told.isSome, told.getD 0⟩
def Runs (B : List Nat) (f s i : Nat) (told : Option Nat) : Prop := runH hd0 (B.drop f) = (runH (hdAt B f s i told) (B.drop i)).shift (i - f)
theorem runs_start (B : List Nat) (f : Nat) : Runs B f f f none := by
  unfold Runs hdAt
  rw [Nat.sub_self, HR.shift_zero]
  rfl
theorem runs_cons {B : List Nat} {f s i : Nat} {told : Option Nat} (h : Runs B f s i told) (hi : i < B.length) : runH hd0 (B.drop f) = (match addL (hdAt B f s i told) (nth B i) with
    | (.opn, h') => (runH h' (B.drop (i + 1))).later
    | (.whole, h') => .whole 1 h'.length
    | (.none, _) => .broken 1 : HR).shift (i - f) := by
  rw [h, drop_at hi, runH_cons]
  rfl
theorem runs_open {B : List Nat} {f s s' i : Nat} {told told' : Option Nat} (h : Runs B f s i told) (hi : i < B.length) (hf : f ≤ i) (ha : addL (hdAt B f s i told) (nth B i) = (.opn, hdAt B f s' (i + 1) told')) : Runs B f s' (i + 1) told' := by
  have := runs_cons h hi
  rw [ha] at this
  unfold Runs
  rw [this]
  simp only
  rw [HR.shift_later, show i - f + 1 = i + 1 - f by omega]
theorem runs_broken {B : List Nat} {f s i : Nat} {told : Option Nat} {h' : Hd} (h : Runs B f s i told) (hi : i < B.length) (hf : f ≤ i) (ha : addL (hdAt B f s i told) (nth B i) = (.none, h')) : HeadR B f (.returned (.tuple #[.bool false, .bool true, .int .i64 ((i : Int) + 1), .int .i64 0])) := by
  have := runs_cons h hi
  rw [ha] at this
  unfold HeadR
  rw [this]
  simp only [HR.shift]
  rw [show f + (1 + (i - f)) = i + 1 by omega]
  rfl
theorem runs_whole {B : List Nat} {f s i : Nat} {told : Option Nat} {h' : Hd} (h : Runs B f s i told) (hi : i < B.length) (hf : f ≤ i) (ha : addL (hdAt B f s i told) (nth B i) = (.whole, h')) : HeadR B f (.returned (.tuple #[.bool true, .bool false, .int .i64 ((i : Int) + 1), .int .i64 (h'.length : Int)])) := by
  have := runs_cons h hi
  rw [ha] at this
  unfold HeadR
  rw [this]
  simp only [HR.shift]
  rw [show f + (1 + (i - f)) = i + 1 by omega]
  rfl
theorem runs_end {B : List Nat} {f s : Nat} {told : Option Nat} (h : Runs B f s B.length told) : HeadR B f (.returned (.tuple #[.bool false, .bool false, .int .i64 0, .int .i64 0])) := by
  unfold Runs at h
  rw [List.drop_length] at h
  unfold HeadR
  rw [h]
  rfl
theorem rlen_two (T : List Nat) : (rlenL T).2 = 0 ∨ (rlenL T).2 = 1 ∨ (rlenL T).2 = 2 := by
  unfold rlenL
  split
  · exact .inr (.inr rfl)
  · split
    · exact .inl rfl
    · cases lengthL (T.drop ((T.takeWhile (· ≠ 58)).length + 1)) with
      | none => exact .inr (.inr rfl)
      | some n => exact .inr (.inl rfl)
theorem end_by (h : Hd) {T : List Nat} (h0 : T.length ≠ 0) : endLineL h T = if (rlenL T).2 = 2 then (.none, h) else if (rlenL T).2 = 1 then (if h.told then (.none, h) else (.opn, { h with told := true, length := (rlenL T).1 })) else (.opn, h) := by
  unfold endLineL rlenL
  rw [if_neg h0]
  simp only
  by_cases h1 : (T.takeWhile (· ≠ 58)).length = T.length ∨ (T.takeWhile (· ≠ 58)).length = 0
  · rw [if_pos h1, if_pos h1]; rfl
  · rw [if_neg h1, if_neg h1]
    by_cases h2 : isLenL (T.takeWhile (· ≠ 58)) = false
    · rw [if_pos h2, if_pos h2]; rfl
    · rw [if_neg h2, if_neg h2]
      cases lengthL (T.drop ((T.takeWhile (· ≠ 58)).length + 1)) with
      | none => rfl
      | some n => rfl
theorem line_byte {B : List Nat} {f s i : Nat} {told : Option Nat} (hi : i < B.length) (hf : f ≤ i) (hs : s ≤ i) (h1 : ¬ 4096 ≤ i - f) (h2 : nth B i ≠ 10) : addL (hdAt B f s i told) (nth B i) = (.opn, hdAt B f s (i + 1) told) := by
  rw [add_byte (by show ¬ 4096 < i - f + 1; omega) h2]
  unfold hdAt
  have := take_snoc (T := B.drop s) (k := i - s) (by rw [List.length_drop]; omega)
  rw [nth_drop, show s + (i - s) = i by omega] at this
  simp only
  rw [← this, show i - s + 1 = i + 1 - s by omega, show i - f + 1 = i + 1 - f by omega]
theorem line_last {B : List Nat} {s i : Nat} (hi : i < B.length) (hs : s < i) : (B.drop s).take (i - s) = (B.drop s).take (i - 1 - s) ++ [nth B (i - 1)] := by
  have := take_snoc (T := B.drop s) (k := i - 1 - s) (by rw [List.length_drop]; omega)
  rw [nth_drop, show s + (i - 1 - s) = i - 1 by omega, show i - 1 - s + 1 = i - s by omega] at this
  exact this
theorem line_bad {B : List Nat} {f s i : Nat} {told : Option Nat} (hi : i < B.length) (hs : s ≤ i) (h1 : ¬ 4096 ≤ i - f) (h2 : nth B i = 10) (h3 : i = s ∨ nth B (i - 1) ≠ 13) : ∃ h', addL (hdAt B f s i told) (nth B i) = (.none, h') := by
  refine ⟨_, add_bad (by show ¬ 4096 < i - f + 1; omega) h2 ?_⟩
  show ((B.drop s).take (i - s)).getLast? ≠ some 13
  by_cases hq : i = s
  · subst hq; simp
  · rw [line_last hi (by omega), List.getLast?_concat]
    intro e
    rcases h3 with q | q
    · exact hq q
    · exact q (Option.some.inj e)
theorem line_end {B : List Nat} {f s i : Nat} {told : Option Nat} (hi : i < B.length) (hs : s < i) (h1 : ¬ 4096 ≤ i - f) (h2 : nth B i = 10) (h3 : nth B (i - 1) = 13) : addL (hdAt B f s i told) (nth B i) = endLineL ⟨i - f + 1, [], told.isSome, told.getD 0⟩ ((B.drop s).take (i - 1 - s)) := by
  have hl : (hdAt B f s i told).line = (B.drop s).take (i - 1 - s) ++ [nth B (i - 1)] := line_last hi hs
  rw [add_end (by show ¬ 4096 < i - f + 1; omega) h2 (by rw [hl, List.getLast?_concat, h3]), hl, List.dropLast_concat]
  rfl
theorem hd_new {B : List Nat} {f i : Nat} (hf : f ≤ i) (told : Option Nat) : (⟨i - f + 1, [], told.isSome, told.getD 0⟩ : Hd) = hdAt B f (i + 1) (i + 1) told := by
  unfold hdAt
  rw [Nat.sub_self, show i - f + 1 = i + 1 - f by omega]
  rfl
def toldV : Option Nat → Value
  | none => .int .i64 (-1)
  | some m => .int .i64 (m : Int)
theorem cut_mid (W : World) (co : Option Addr) (n cc s t : Nat) (h : s ≤ t) (h1 : t ≤ n) (h2 : n ≤ cc) : (Instr.slice 25 (.slice co n cc) (some (.int .i64 (s : Int))) (some (.int .i64 (t : Int))) none).run Tryd.prog W = .ok (.slice (if cc = s then co else co.map (·.add s)) (t - s) (cc - s)) W := by
  have h1 := run_slice_lh (P := Tryd.prog) (w := W) 25 co n cc (by kernel_rfl) .i64 .i64 (s : Int) (t : Int) (by omega) (by omega) (by omega)
  rw [h1]
  go_simp
theorem Byts.mid {W : World} {ao : Option Addr} {cap s t : Nat} {T : List Nat} (h : Byts W (.slice ao T.length cap) T) (hs : s ≤ t) (ht : t ≤ T.length) (hcap : T.length ≤ cap) : Byts W (.slice (if cap = s then ao else ao.map (·.add s)) (t - s) (cap - s)) ((T.drop s).take (t - s)) := by
  have h1 := h.rest (f := s) (by omega) hcap
  rw [show T.length - s = (T.drop s).length by rw [List.length_drop]] at h1
  exact h1.front (by rw [List.length_drop]; omega)

set_option maxHeartbeats 16000000 in
theorem rheader_calls (w : World) (ao : Option Addr) (cap : Nat) (B : List Nat) (f : Nat) (h : Byts w (.slice ao B.length cap) B) (hcap : B.length ≤ cap) (hlen : B.length ≤ 1000000) (hf : f ≤ B.length) :
    Calls Tryd.prog 17 #[.slice ao B.length cap, .int .i64 (f : Int)] w fun e w' => HeadR B f e ∧ Below w.heap.size w w' := by
  have HS : Hid (∀ j, nth B j < 256) := fun j => nth_lt h.small j
  have HC : Hid (∀ (W : World), Below w.heap.size w W → ∀ j, j < B.length → ∃ b off, ao = some ⟨b, off, none⟩ ∧ W.cell? ⟨b, off + j, none⟩ = some (.int .u8 (nth B j : Int))) := fun W hW j hj => by
    obtain ⟨ao', c', e', hb, hc⟩ := h.below hW
    cases e'
    exact hc j hj
  have HLC : Hid (∀ (W : World), Below w.heap.size w W → ∀ s t, s ≤ t → t ≤ B.length → Calls Tryd.prog 20 #[.slice (if cap = s then ao else ao.map (·.add s)) (t - s) (cap - s)] W fun e w' => RLenR ((B.drop s).take (t - s)) e ∧ Below W.heap.size W w') := fun W hW s t hs ht => by
    have h1 := (h.below hW).mid hs ht hcap
    have hl : ((B.drop s).take (t - s)).length = t - s := by rw [List.length_take, List.length_drop]; omega
    have := rlength_calls W (if cap = s then ao else ao.map (·.add s)) (cap - s) ((B.drop s).take (t - s)) (by rw [hl]; exact h1) (by rw [hl]; omega)
    rw [hl] at this
    exact this
  clear h
  have HST := hide (runs_start B f)
  have HRO := hide (fun s s' i told told' => @runs_open B f s s' i told told')
  have HRB := hide (fun s i told h' => @runs_broken B f s i told h')
  have HRW := hide (fun s i told h' => @runs_whole B f s i told h')
  have HRE := hide (fun s told => @runs_end B f s told)
  have HLB := hide (fun s i told => @line_byte B f s i told)
  have HLX := hide (fun s i told => @line_bad B f s i told)
  have HLE := hide (fun s i told => @line_end B f s i told)
  have HLL : Hid (∀ s t, s ≤ t → t ≤ B.length → ((B.drop s).take (t - s)).length = t - s) := fun s t hs ht => by rw [List.length_take, List.length_drop]; omega
  generalize hn : B.length = n at *
  clear hn
  go_enter Tryd.func17, Tryd.ntmps17
  go_wp2
  go_loopw [8, 9, 10] (fun tv sv iv wr => ∃ (i s : Nat) (told : Option Nat), f ≤ s ∧ s ≤ i ∧ i ≤ n ∧ iv = .int .i64 (i : Int) ∧ sv = .int .i64 (s : Int) ∧ tv = toldV told ∧ told.getD 0 < 10000000000 ∧ Runs B f s i told ∧ Below w.heap.size w wr) (fun _ _ iv _ => n - (RowKit.intOf iv).toNat)
  case atStart => exact ⟨f, f, none, Nat.le_refl _, Nat.le_refl _, hf, rfl, rfl, rfl, by decide, HST.out, Below.refl _ _⟩
  case round =>
    obtain ⟨i, s, told, hfs, hsi, hi, rfl, rfl, rfl, htl, hrun, hbr⟩ := hrel
    have HBR := hide hbr
    have HRUN := hide hrun
    have HTL := hide htl
    clear hbr hrun htl HST
    by_cases hlt : i < n
    · obtain ⟨b, off, rfl, hcell⟩ := HC.out wr HBR.out i hlt
      have hx := HS.out i
      obtain ⟨x, hxi⟩ : ∃ x, nth B i = x := ⟨_, rfl⟩
      have HXI := hide hxi
      rw [hxi] at hcell hx
      clear hxi
      obtain ⟨sz, hsz⟩ : ∃ sz, i - f = sz := ⟨_, rfl⟩
      have HSZ := hide hsz
      have e1 : (i : Int) - (f : Int) = (sz : Int) := by omega
      have d1 : (i : Int) < (n : Int) := by omega
      have d0 : (0 : Int) ≤ (i : Int) := by omega
      have HO : Hid (f ≤ s ∧ s ≤ i ∧ i < n ∧ f ≤ i) := show _ ∧ _ ∧ _ ∧ _ by omega
      have hib : i ≤ 1000000 := by omega
      have hszb : sz ≤ 1000000 := by omega
      clear hsz
      by_cases h4 : 4096 ≤ sz
      · have e4 : (4096 : Int) ≤ (sz : Int) := by omega
        have HQ := hide (HRB.out s i told _ HRUN.out HO.out.2.2.1 HO.out.2.2.2 (add_long (by show 4096 < i - f + 1; have := HSZ.out; omega)))
        generalize toldV told = tv at *
        clear h4 hlt hfs hsi hi
        go_wp2
        try simp only [Exit.inBlock, Exit.then]
        refine bodyPost_ret (results_tmp4 rfl _ _ _) rfl ?_
        exact ⟨HQ.out, HBR.out⟩
      · have e4 : ¬ (4096 : Int) ≤ (sz : Int) := by omega
        have H4 : Hid (¬ 4096 ≤ i - f) := by rw [HSZ.out]; exact h4
        by_cases h10 : x = 10
        · subst h10
          by_cases his : i = s
          · subst his
            have ei : ((i : Int) == (i : Int)) = true := beq_iff_eq.2 rfl
            obtain ⟨h', hh'⟩ := HLX.out i i told HO.out.2.2.1 (Nat.le_refl _) H4.out HXI.out (.inl rfl)
            have HQ := hide (HRB.out i i told _ HRUN.out HO.out.2.2.1 HO.out.2.2.2 hh')
            generalize toldV told = tv at *
            clear h4 hlt hfs hsi hi hh'
            go_wp2
            try simp only [Exit.inBlock, Exit.then]
            refine bodyPost_ret (results_tmp4 rfl _ _ _) rfl ?_
            exact ⟨HQ.out, HBR.out⟩
          · have ei : ((i : Int) == (s : Int)) = false := beq_eq_false_iff_ne.2 (by omega)
            obtain ⟨j, rfl⟩ : ∃ j, i = j + 1 := ⟨i - 1, by omega⟩
            obtain ⟨b2, off2, hbo, hcell2⟩ := HC.out wr HBR.out j (by omega)
            cases hbo
            have hy := HS.out j
            obtain ⟨y, hyj⟩ : ∃ y, nth B j = y := ⟨_, rfl⟩
            have HYJ := hide hyj
            rw [hyj] at hcell2 hy
            clear hyj
            have ej : ((j + 1 : Nat) : Int) - 1 = (j : Int) := by omega
            have ei2 : (((j : Int) + 1) == (s : Int)) = false := beq_eq_false_iff_ne.2 (by omega)
            have e1b : ((j : Int) + 1) - (f : Int) = (sz : Int) := by omega
            have d1b : ((j : Int) + 1) < (n : Int) := by omega
            have d0b : (0 : Int) ≤ ((j : Int) + 1) := by omega
            have dj0 : (0 : Int) ≤ (j : Int) := by omega
            have djn : (j : Int) < (n : Int) := by omega
            have HSJ : Hid (s < j + 1 ∧ s ≤ j) := show _ ∧ _ by omega
            by_cases h13 : y = 13
            · subst h13
              have HEND : Hid (addL (hdAt B f s (j + 1) told) (nth B (j + 1)) = endLineL ⟨j + 1 - f + 1, [], told.isSome, told.getD 0⟩ ((B.drop s).take (j - s))) := HLE.out s (j + 1) told HO.out.2.2.1 HSJ.out.1 H4.out HXI.out HYJ.out
              by_cases hjs : j = s
              · subst hjs
                have ejs : ((j : Int) == (j : Int)) = true := beq_iff_eq.2 rfl
                have HE0 : Hid ((B.drop j).take (j - j) = []) := by show _ = _; rw [Nat.sub_self]; rfl
                cases told with
                | none =>
                  have HQ := hide (HRB.out j (j + 1) none _ HRUN.out HO.out.2.2.1 HO.out.2.2.2 (by rw [HEND.out, HE0.out]; rfl))
                  have et : toldV none = .int .i64 (-1) := rfl
                  rw [et]
                  clear h4 hlt hfs hsi hi his
                  go_wp2
                  try simp only [Exit.inBlock, Exit.then]
                  refine bodyPost_ret (results_tmp4 rfl _ _ _) rfl ?_
                  exact ⟨by first | exact HQ.out | (simpa using HQ.out), HBR.out⟩
                | some m =>
                  have HQ := hide (HRW.out j (j + 1) (some m) _ HRUN.out HO.out.2.2.1 HO.out.2.2.2 (by rw [HEND.out, HE0.out]; rfl))
                  have et : toldV (some m) = .int .i64 (m : Int) := rfl
                  rw [et]
                  have em : ¬ (m : Int) < 0 := by omega
                  clear h4 hlt hfs hsi hi his
                  go_wp2
                  try simp only [Exit.inBlock, Exit.then]
                  refine bodyPost_ret (results_tmp4 rfl _ _ _) rfl ?_
                  exact ⟨by first | exact HQ.out | (simpa using HQ.out), HBR.out⟩
              · have ejs : ((j : Int) == (s : Int)) = false := beq_eq_false_iff_ne.2 (by omega)
                have q1 := fun W : World => cut_mid W (some ⟨b, off, none⟩) n cap s j (by omega) (by omega) hcap
                have HCL := hide (HLC.out wr HBR.out s j (by omega) (by omega))
                have HT0 : Hid (((B.drop s).take (j - s)).length ≠ 0) := by show _ ≠ _; rw [HLL.out s j (by omega) (by omega)]; have := HSJ.out; omega
                have HEB := hide (fun h => end_by h HT0.out)
                have HTW := hide (rlen_two ((B.drop s).take (j - s)))
                have HLT2 := hide (rlen_lt ((B.drop s).take (j - s)))
                have HRR : Hid (∀ e, RLenR ((B.drop s).take (j - s)) e → e = .returned (.tuple #[.int .i64 ((rlenL ((B.drop s).take (j - s))).1 : Int), .int .i64 ((rlenL ((B.drop s).take (j - s))).2 : Int)])) := fun e he => he
                generalize (if cap = s then some (⟨b, off, none⟩ : Addr) else (some (⟨b, off, none⟩ : Addr)).map (·.add s)) = aC at *
                generalize (B.drop s).take (j - s) = T at *
                generalize hjsl : j - s = jl at *
                have hjlb : jl ≤ 1000000 := by omega
                have hfi : f ≤ j + 1 := HO.out.2.2.2
                clear HT0 hjsl
                obtain ⟨tv, htv⟩ : ∃ tv, toldV told = tv := ⟨_, rfl⟩
                have HTV := hide htv
                rw [htv]
                clear htv h4 hlt hfs hsi hi hjs his
                go_wp2_with fail
                refine HCL.out.mono ?_
                rintro e w2 ⟨hre, hb2⟩
                have he := HRR.out e hre
                subst he
                have HB2 := hide (bafter HBR.out hb2 (Nat.le_refl _))
                clear hre hb2 HCL HRR
                generalize (rlenL T).1 = m at *
                obtain ⟨kd, hkd⟩ : ∃ kd, (rlenL T).2 = kd := ⟨_, rfl⟩
                rw [hkd] at HEB HTW
                rw [hkd]
                clear hkd
                rcases HTW.out with rfl | rfl | rfl
                · -- another line
                  have HN := hide (HRO.out s (j + 1 + 1) (j + 1) told told HRUN.out HO.out.2.2.1 HO.out.2.2.2 (by rw [HEND.out, HEB.out, ← hd_new hfi told]; rfl))
                  clear HTW HEB HEND
                  go_wp2
                  go_roundw
                  case rel => exact ⟨j + 1 + 1, j + 1 + 1, told, by have := HO.out; omega, Nat.le_refl _, HO.out.2.2.1, by first | rfl | go_num, by first | rfl | go_num, HTV.out.symm, HTL.out, HN.out, HB2.out⟩
                  case measure => have := HO.out; simp [RowKit.intOf]; omega
                · cases told with
                  | none =>
                    have HN := hide (HRO.out s (j + 1 + 1) (j + 1) none (some m) HRUN.out HO.out.2.2.1 HO.out.2.2.2 (by rw [HEND.out, HEB.out, ← hd_new hfi (some m)]; rfl))
                    have ht := HTV.out
                    have et : toldV none = .int .i64 (-1) := rfl
                    rw [et] at ht
                    subst ht
                    have hm := HLT2.out
                    clear HTW HEB HEND
                    go_wp2
                    go_roundw
                    case rel => exact ⟨j + 1 + 1, j + 1 + 1, some m, by have := HO.out; omega, Nat.le_refl _, HO.out.2.2.1, by first | rfl | go_num, by first | rfl | go_num, rfl, HLT2.out, HN.out, HB2.out⟩
                    case measure => have := HO.out; simp [RowKit.intOf]; omega
                  | some m0 =>
                    have HQ := hide (HRB.out s (j + 1) (some m0) _ HRUN.out HO.out.2.2.1 HO.out.2.2.2 (by rw [HEND.out, HEB.out]; rfl))
                    have ht := HTV.out
                    have et : toldV (some m0) = .int .i64 (m0 : Int) := rfl
                    rw [et] at ht
                    subst ht
                    have em : (0 : Int) ≤ (m0 : Int) := by omega
                    clear HTW HEB HEND
                    go_wp2
                    try simp only [Exit.inBlock, Exit.then]
                    refine bodyPost_ret (results_tmp4 rfl _ _ _) rfl ?_
                    exact ⟨by first | exact HQ.out | (simpa using HQ.out), HB2.out⟩
                · have HQ := hide (HRB.out s (j + 1) told _ HRUN.out HO.out.2.2.1 HO.out.2.2.2 (by rw [HEND.out, HEB.out]; rfl))
                  clear HTW HEB HEND
                  go_wp2
                  try simp only [Exit.inBlock, Exit.then]
                  refine bodyPost_ret (results_tmp4 rfl _ _ _) rfl ?_
                  exact ⟨by first | exact HQ.out | (simpa using HQ.out), HB2.out⟩
            · have e13 : ((y : Int) != 13) = true := by simp; omega
              obtain ⟨h', hh'⟩ := HLX.out s (j + 1) told HO.out.2.2.1 HO.out.2.1 H4.out HXI.out (.inr (by rw [show j + 1 - 1 = j by omega, HYJ.out]; exact h13))
              have HQ := hide (HRB.out s (j + 1) told _ HRUN.out HO.out.2.2.1 HO.out.2.2.2 hh')
              generalize toldV told = tv at *
              clear h4 hlt hfs hsi hi hh' h13 his
              go_wp2
              try simp only [Exit.inBlock, Exit.then]
              refine bodyPost_ret (results_tmp4 rfl _ _ _) rfl ?_
              exact ⟨by first | exact HQ.out | (simpa using HQ.out), HBR.out⟩
        · have e10 : ((x : Int) != 10) = true := by simp; omega
          have HN := hide (HRO.out s s i told told HRUN.out HO.out.2.2.1 HO.out.2.2.2 (HLB.out s i told HO.out.2.2.1 HO.out.2.2.2 HO.out.2.1 H4.out (by rw [HXI.out]; exact h10)))
          obtain ⟨tv, htv⟩ : ∃ tv, toldV told = tv := ⟨_, rfl⟩
          have HTV := hide htv
          rw [htv]
          clear h4 hlt hfs hsi hi h10 htv
          go_wp2
          go_roundw
          case rel => exact ⟨i + 1, s, told, HO.out.1, by have := HO.out; omega, HO.out.2.2.1, by go_num, rfl, HTV.out.symm, HTL.out, HN.out, HBR.out⟩
          case measure => have := HO.out; simp [RowKit.intOf]; omega
    · obtain rfl : i = n := by omega
      have d1 : ¬ (i : Int) < (i : Int) := by omega
      have HQ := hide (HRE.out s told HRUN.out)
      generalize toldV told = tv at *
      clear hlt hi hfs hsi
      go_wp2
      try simp only [Exit.inBlock, Exit.then]
      refine bodyPost_ret (results_tmp4 rfl _ _ _) rfl ?_
      exact ⟨HQ.out, HBR.out⟩

end Go.Proofs.YtnflbplhokodjaaDoor
