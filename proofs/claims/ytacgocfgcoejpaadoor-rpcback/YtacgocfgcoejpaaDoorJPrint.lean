/- Json: an array of numbers is written; Print. -/
import Derived.Test.YtacgocfgcoejpaaDoorJWr3
namespace Go.Proofs.YtacgocfgcoejpaaDoor
set_option linter.unusedVariables false
set_option linter.unusedSimpArgs false
set_option maxRecDepth 100000
open Go Go.RowKit Go.Shelf Go.Lib

theorem BoxC.ne {w : World} {A B : Nat} {t t' : TypeId} {cs cs' : Array Value} (h : BoxC w A t cs) (k : BoxC w B t' cs') (ht : t ≠ t') : A ≠ B := fun e => by
  subst e
  unfold BoxC at h k
  rw [h] at k
  cases k
  exact ht rfl
def numsV (X : List (List Nat)) : List JC := X.map (fun S => nC (strOf S))
theorem numsV_len (X : List (List Nat)) : (numsV X).length = X.length := by simp [numsV]
theorem OwnV.frw2 {n₀ n₁ B : Nat} {w w' : World} {v : Value} {M : List JC} (h : OwnV n₁ w v M) (k : FrW n₀ B w w') (hB : v.ownBlock ≠ some B) : OwnV n₁ w' v M := by
  refine h.keep fun j e => k.block j (h.lt j e).2 (fun q => hB (by rw [e, q])) (.inr ?_)
  rintro ⟨cs', z, e'⟩
  obtain ⟨c, fz, hk⟩ := Lib.ownsRow_kind h j e
  rw [hk] at e'
  cases e'

set_option maxHeartbeats 4000000 in
theorem part_calls (n₀ n₁ : Nat) (w : World) (B g d : Nat) (L : List Nat) (X : List (List Nat)) (lv : Value) (i : Nat) (hi : i < X.length) (x0 x1 x2 : Value) (hg : BoxC w g 56 #[.pointer (some ⟨B, 0, none⟩)]) (hv : BoxC w (g + 1) 25 #[x0, x1, x2, lv]) (ho : OwnV n₁ w lv (numsV X)) (hS : NumT X[i]) (hw : WrJ n₀ w B L d) (hlen : L.length ≤ 2000000) (hX : X.length ≤ 1000000) :
    Calls Tryd.prog 39 #[.int .i64 (i : Int), .pointer (some ⟨g, 0, none⟩), .pointer (some ⟨g + 1, 0, none⟩)] w fun e w' => e = .returned (.tuple #[]) ∧ WrJ n₀ w' B (L ++ X[i]) d ∧ FrW n₀ B w w' := by
  obtain ⟨la, lc, hlv, hlc⟩ := ho.len
  subst hlv
  have hx : (numsV X)[i]? = some (nC (strOf X[i])) := by simp [numsV, hi]
  obtain ⟨G, rfl, hc⟩ := ho.cell hx
  rw [numsV_len] at hv ho hlc
  have k0 := hc 0 (by omega)
  have k1 := hc 1 (by omega)
  have k2 := hc 2 (by omega)
  have k3 := hc 3 (by omega)
  simp only [vcell, nC, List.getElem?_cons_zero, List.getElem?_cons_succ, Nat.add_zero] at k0 k1 k2 k3
  have HC := hide (fun W (hW : Below w.heap.size w W) => wnumber_calls n₀ W B L X[i] d (.slice none 0 0) (.slice none 0 0) ⟨_, _, _, rfl⟩ ⟨_, _, _, rfl⟩ (hw.below hW) hS (by have := hS.2.1; omega))
  have d1 : (i : Int) < (X.length : Int) := by omega
  have d0 : (0 : Int) ≤ (i : Int) := by omega
  clear hx hc
  generalize X[i] = xi at *
  generalize hn : X.length = n at *
  generalize strOf xi = s at *
  have hdr : Below w.heap.size w w.drew := (Below.refl _ _).drew
  have HS : Hid (w.cell? ⟨g, 0, none⟩ = some (.pointer (some ⟨B, 0, none⟩)) ∧ w.cell? ⟨g + 1, 3, none⟩ = some (.slice (some ⟨G, 0, none⟩) n lc) ∧ w.cell? ⟨G, i * 4, none⟩ = some (.int .i64 3) ∧ w.cell? ⟨G, i * 4 + 1, none⟩ = some (.string s) ∧ w.cell? ⟨G, i * 4 + 2, none⟩ = some (.slice none 0 0) ∧ w.cell? ⟨G, i * 4 + 3, none⟩ = some (.slice none 0 0)) := ⟨hg.cell 0, hv.cell 3, k0, k1, k2, k3⟩
  have HSD : Hid (w.drew.cell? ⟨g, 0, none⟩ = some (.pointer (some ⟨B, 0, none⟩)) ∧ w.drew.cell? ⟨g + 1, 3, none⟩ = some (.slice (some ⟨G, 0, none⟩) n lc) ∧ w.drew.cell? ⟨G, i * 4, none⟩ = some (.int .i64 3) ∧ w.drew.cell? ⟨G, i * 4 + 1, none⟩ = some (.string s) ∧ w.drew.cell? ⟨G, i * 4 + 2, none⟩ = some (.slice none 0 0) ∧ w.drew.cell? ⟨G, i * 4 + 3, none⟩ = some (.slice none 0 0)) := HS.out
  have lg := hg.lt
  have lv1 := hv.lt
  have lG : G < w.heap.size := block_lt k0
  have HDR := hide hdr
  obtain ⟨bv, hbx, _⟩ := id hw
  have hgB : g ≠ B := hg.ne hbx (by decide)
  have hvB : g + 1 ≠ B := hv.ne hbx (by decide)
  have hoB : (Value.slice (some ⟨G, 0, none⟩) n lc).ownBlock ≠ some B := ho.ne hbx (by decide)
  have HSA : Hid (∀ W', FrW n₀ B w.drew W' → (W'.cell? ⟨g, 0, none⟩ = some (.pointer (some ⟨B, 0, none⟩)) ∧ W'.cell? ⟨g + 1, 3, none⟩ = some (.slice (some ⟨G, 0, none⟩) n lc) ∧ W'.cell? ⟨G, i * 4, none⟩ = some (.int .i64 3) ∧ W'.cell? ⟨G, i * 4 + 1, none⟩ = some (.string s) ∧ W'.cell? ⟨G, i * 4 + 2, none⟩ = some (.slice none 0 0) ∧ W'.cell? ⟨G, i * 4 + 3, none⟩ = some (.slice none 0 0))) := fun W' hf => by
    have e : W'.heap[G]? = w.heap[G]? := hf.block G (show G < w.heap.size from block_lt k0) (fun q => hoB (by rw [← q]; rfl)) (.inr (by
      rintro ⟨cs', z, e'⟩
      obtain ⟨c, fz, hk⟩ := Lib.ownsRow_kind ho G rfl
      rw [show w.drew.heap[G]? = w.heap[G]? from rfl, hk] at e'
      cases e'))
    have hce : ∀ j, W'.cell? ⟨G, j, none⟩ = w.cell? ⟨G, j, none⟩ := fun j => World.cell?_of_block e
    have hg' : BoxC W' g 56 #[.pointer (some ⟨B, 0, none⟩)] := (show BoxC w.drew g 56 _ from hg).frw hf hgB (by decide)
    have hv' : BoxC W' (g + 1) 25 #[x0, x1, x2, .slice (some ⟨G, 0, none⟩) n lc] := (show BoxC w.drew (g + 1) 25 _ from hv).frw hf hvB (by decide)
    exact ⟨hg'.cell 0, hv'.cell 3, (hce _).trans k0, (hce _).trans k1, (hce _).trans k2, (hce _).trans k3⟩
  clear hg hv ho k0 k1 k2 k3 hdr hw hS hbx hgB hvB hoB
  go_enter Tryd.func39, Tryd.ntmps39
  go_upto_region 0 with fail
  refine wp_region_held_drew (S := fun X0 : World => X0.cell? ⟨g, 0, none⟩ = some (.pointer (some ⟨B, 0, none⟩)) ∧ X0.cell? ⟨g + 1, 3, none⟩ = some (.slice (some ⟨G, 0, none⟩) n lc) ∧ X0.cell? ⟨G, i * 4, none⟩ = some (.int .i64 3) ∧ X0.cell? ⟨G, i * 4 + 1, none⟩ = some (.string s) ∧ X0.cell? ⟨G, i * 4 + 2, none⟩ = some (.slice none 0 0) ∧ X0.cell? ⟨G, i * 4 + 3, none⟩ = some (.slice none 0 0)) (by kernel_rfl) ?_ (fun hHeld => ?_)
  · exact HS.out
  refine takeD (i := 0) (v := ?v1) (some 4) rfl (by kernel_rfl) (by kernel_rfl) (by kernel_rfl) (fun _ _ _ h => h) (Or.inl ⟨by rfl, ?hy1⟩) HSD.out (by rfl) ?rest1
  case hy1 => first | (intro w hSw; (try dsimp only at hSw); obtain ⟨s0, s1, s2, s3, s4, s5⟩ := hSw; go_simp; done) | (intro w hSw; (try dsimp only at hSw); obtain ⟨s0, s1, s2, s3, s4, s5⟩ := hSw; go_simp; with_reducible rfl)
  try simp only [Act.put, List.setIfInBounds_toArray, List.set_cons_zero, List.set_cons_succ]
  refine takeD (i := 1) (v := ?v2) (some 5) rfl (by kernel_rfl) (by kernel_rfl) (by kernel_rfl) (fun _ _ _ h => h) (Or.inl ⟨by rfl, ?hy2⟩) HSD.out (by rfl) ?rest2
  case hy2 => first | (intro w hSw; (try dsimp only at hSw); obtain ⟨s0, s1, s2, s3, s4, s5⟩ := hSw; go_simp; done) | (intro w hSw; (try dsimp only at hSw); obtain ⟨s0, s1, s2, s3, s4, s5⟩ := hSw; go_simp; with_reducible rfl)
  try simp only [Act.put, List.setIfInBounds_toArray, List.set_cons_zero, List.set_cons_succ]
  refine takeD (i := 2) (v := ?v3) (some 6) rfl (by kernel_rfl) (by kernel_rfl) (by kernel_rfl) (fun _ _ _ h => h) (Or.inl ⟨by rfl, ?hy3⟩) HSD.out (by rfl) ?rest3
  case hy3 => first | (intro w hSw; (try dsimp only at hSw); obtain ⟨s0, s1, s2, s3, s4, s5⟩ := hSw; go_simp; done) | (intro w hSw; (try dsimp only at hSw); obtain ⟨s0, s1, s2, s3, s4, s5⟩ := hSw; go_simp; with_reducible rfl)
  try simp only [Act.put, List.setIfInBounds_toArray, List.set_cons_zero, List.set_cons_succ]
  refine takeD (i := 3) (v := ?v4) (some 7) rfl (by kernel_rfl) (by kernel_rfl) (by kernel_rfl) (fun _ _ _ h => h) (Or.inl ⟨by rfl, ?hy4⟩) HSD.out (by rfl) ?rest4
  case hy4 => first | (intro w hSw; (try dsimp only at hSw); obtain ⟨s0, s1, s2, s3, s4, s5⟩ := hSw; go_simp; done) | (intro w hSw; (try dsimp only at hSw); obtain ⟨s0, s1, s2, s3, s4, s5⟩ := hSw; go_simp; with_reducible rfl)
  try simp only [Act.put, List.setIfInBounds_toArray, List.set_cons_zero, List.set_cons_succ]
  refine takeD (i := 4) (v := ?v5) (some 8) rfl (by kernel_rfl) (by kernel_rfl) (by kernel_rfl) (fun _ _ _ h => h) (Or.inl ⟨by rfl, ?hy5⟩) HSD.out (by rfl) ?rest5
  case hy5 => first | (intro w hSw; (try dsimp only at hSw); obtain ⟨s0, s1, s2, s3, s4, s5⟩ := hSw; go_simp; done) | (intro w hSw; (try dsimp only at hSw); obtain ⟨s0, s1, s2, s3, s4, s5⟩ := hSw; go_simp; with_reducible rfl)
  try simp only [Act.put, List.setIfInBounds_toArray, List.set_cons_zero, List.set_cons_succ]
  refine takeD (i := 5) (v := ?v6) (some 9) rfl (by kernel_rfl) (by kernel_rfl) (by kernel_rfl) (fun _ _ _ h => h) (Or.inl ⟨by rfl, ?hy6⟩) HSD.out (by rfl) ?rest6
  case hy6 => first | (intro w hSw; (try dsimp only at hSw); obtain ⟨s0, s1, s2, s3, s4, s5⟩ := hSw; go_simp; done) | (intro w hSw; (try dsimp only at hSw); obtain ⟨s0, s1, s2, s3, s4, s5⟩ := hSw; go_simp; with_reducible rfl)
  try simp only [Act.put, List.setIfInBounds_toArray, List.set_cons_zero, List.set_cons_succ]
  refine wpAnyH_ready (rs := [6]) (by kernel_rfl) (by simp) ?_
  refine AllReadyH.cons rfl (fun K hK => ?_) AllReadyH.nil
  go_simp
  refine (HC.out _ HDR.out).mono ?_
  rintro e w2 ⟨rfl, hw2, hf2⟩
  have HR := hide (And.intro hw2 ((FrW.of HDR.out : FrW n₀ B w w.drew).trans hf2))
  have hs2 := HSA.out _ hf2
  clear hw2 hf2
  refine hK.out _ _ hs2 (fun hHeld => ?_)
  clear hK K
  try simp only [Act.put, List.setIfInBounds_toArray, List.set_cons_zero, List.set_cons_succ]
  refine wpAnyH_done (by kernel_rfl) ?_ _
  go_wp2
  go_end0
  exact ⟨rfl, HR.out⟩

set_option maxHeartbeats 4000000 in
theorem warray_calls (n₀ n₁ : Nat) (w : World) (B d : Nat) (L : List Nat) (X : List (List Nat)) (st : ByteArray) (kv lv : Value) (hk : IsSl kv) (ho : OwnV n₁ w lv (numsV X)) (hS : ∀ S ∈ X, NumT S) (hw : WrJ n₀ w B L d) (hd : d < 64) (hlen : L.length + (joinT X).length ≤ 1000000) (hX : X.length ≤ 1000000) :
    Calls Tryd.prog 21 #[.pointer (some ⟨B, 0, none⟩), vagg (5, st, kv, lv)] w fun e w' => e = .returned (.tuple #[]) ∧ WrJ n₀ w' B (L ++ [91] ++ joinT X ++ [93]) d ∧ FrW n₀ B w w' := by
  have hmf : ∀ (fn : Fn) (first cap : Array Value) (w : World), (Instr.makeFunc fn first cap).run Tryd.prog w = .ok (.func fn first cap) w := fun _ _ _ _ => rfl
  obtain ⟨ka, kn, kc, rfl⟩ := hk
  obtain ⟨la, lc, hlv, hlc⟩ := ho.len
  subst hlv
  rw [numsV_len] at ho hlc
  rw [numsV_len]
  unfold vagg
  simp only
  have hb0 : Below w.heap.size w ((w.alloc (.cells #[.pointer (some ⟨B, 0, none⟩)] 56)).alloc (.cells #[.int .i64 5, .string st, .slice ka kn kc, .slice la X.length lc] 25)) := (bel w _).alloc (by simp) _
  have hp0 := (BoxC.new w 56 #[.pointer (some ⟨B, 0, none⟩)]).alloc (.cells #[.int .i64 5, .string st, .slice ka kn kc, .slice la X.length lc] 25)
  have hv0 := BoxC.new (w.alloc (.cells #[.pointer (some ⟨B, 0, none⟩)] 56)) 25 #[.int .i64 5, .string st, .slice ka kn kc, .slice la X.length lc]
  rw [World.size_alloc] at hv0
  generalize hw0 : ((w.alloc (.cells #[.pointer (some ⟨B, 0, none⟩)] 56)).alloc (.cells #[.int .i64 5, .string st, .slice ka kn kc, .slice la X.length lc] 25)) = w0 at *
  have h0 := hw.below hb0
  have ho0 := ho.keep (fun j e => hb0.block j (ho.lt j e).2)
  obtain ⟨bv, hbx, _⟩ := id h0
  have hgB : w.heap.size ≠ B := hp0.ne hbx (by decide)
  have hvB : w.heap.size + 1 ≠ B := hv0.ne hbx (by decide)
  have hoB : (Value.slice la X.length lc).ownBlock ≠ some B := ho0.ne hbx (by decide)
  have HN := hide (wnested_calls n₀ w0 B L d 91 93 X (fun W => BoxC W w.heap.size 56 #[.pointer (some ⟨B, 0, none⟩)] ∧ BoxC W (w.heap.size + 1) 25 #[.int .i64 5, .string st, .slice ka kn kc, .slice la X.length lc] ∧ OwnV n₁ W (.slice la X.length lc) (numsV X))
    (.func (.func 39) #[] #[.pointer (some ⟨w.heap.size, 0, none⟩), .pointer (some ⟨w.heap.size + 1, 0, none⟩)]) w.heap.size #[] rfl h0 hd (by omega) (by omega) ⟨hp0, hv0, ho0⟩
    (fun W W' ⟨q1, q2, q3⟩ hf => ⟨q1.frw hf hgB (by decide), q2.frw hf hvB (by decide), q3.frw2 hf hoB⟩) hX hlen
    (fun W L' i hi ⟨q1, q2, q3⟩ hw' hl' => part_calls n₀ n₁ W B w.heap.size (d + 1) L' X (.slice la X.length lc) i hi _ _ _ q1 q2 q3 (hS _ (List.getElem_mem hi)) hw' hl' hX))
  have HW0 := hide hw0
  have HB0 := hide hb0
  have p0 : w0.cell? ⟨w.heap.size, 0, none⟩ = some (.pointer (some ⟨B, 0, none⟩)) := hp0.cell 0
  have v0 : w0.cell? ⟨w.heap.size + 1, 0, none⟩ = some (.int .i64 5) := hv0.cell 0
  have v3 : w0.cell? ⟨w.heap.size + 1, 3, none⟩ = some (.slice la X.length lc) := hv0.cell 3
  have lV := hv0.lt
  have lP := hp0.lt
  clear h0 hw0 hb0 hp0 hv0 hS hw ho ho0 hbx hgB hvB hoB hd hlen hX hlc
  go_enter Tryd.func21, Tryd.ntmps21
  go_upto_region 1 with fail
  rw [HW0.out]
  clear HW0
  go_wp2_with fail
  refine HN.out.mono ?_
  rintro e w1 ⟨rfl, hwr, hfw⟩
  have HR := hide (And.intro hwr ((FrW.of HB0.out : FrW n₀ B w w0).trans hfw))
  clear hwr hfw
  go_wp2
  go_end0
  exact ⟨rfl, by have h := HR.out.1; simp only [List.append_assoc, List.cons_append, List.nil_append] at h ⊢; exact h, HR.out.2⟩

end Go.Proofs.YtacgocfgcoejpaaDoor
