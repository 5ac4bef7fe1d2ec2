/- Json: trees that lie in memory. -/
import Derived.Test.YtacgocfgcoejpaaDoorJsonMakesW
namespace Go.Proofs.YtacgocfgcoejpaaDoor
set_option linter.unusedVariables false
set_option linter.unusedSimpArgs false
set_option maxRecDepth 100000
open Go Go.RowKit Go.Shelf Go.Lib

inductive JT where
  | mk (k : Int) (s : ByteArray) (K : List ByteArray) (L : List JT)

/-- Strings, in blocks of which something is so. -/
def StrsS (W : World) (S : Nat → Prop) (v : Value) (K : List ByteArray) : Prop := ∃ ao cap, v = .slice ao K.length cap ∧ ∀ j, j < K.length → ∃ b off, ao = some ⟨b, off, none⟩ ∧ S b ∧ W.cell? ⟨b, off + j, none⟩ = some (.string (nthS K j))
/-- A value and all that it is made of, in blocks of which something is so. -/
inductive TIn (W : World) (S : Nat → Prop) : JC → JT → Prop where
  | mk (k : Int) (s : ByteArray) (kv : Value) (la : Option Addr) (lc : Nat) (K : List ByteArray) (L : List JT) (xs : Nat → JC)
      (hK : StrsS W S kv K)
      (hc : ∀ i, i < L.length → ∃ b off, la = some ⟨b, off, none⟩ ∧ S b ∧ ∀ r, r < 4 → W.cell? ⟨b, off + (i * 4 + r), none⟩ = (vcell (xs i))[r]?)
      (hsl : ∀ i, i < L.length → IsSl (xs i).2.2.1 ∧ IsSl (xs i).2.2.2)
      (ht : ∀ i (h : i < L.length), TIn W S (xs i) L[i]) : TIn W S (k, s, kv, .slice la L.length lc) (.mk k s K L)
theorem StrsS.keep {W W' : World} {S S' : Nat → Prop} {v : Value} {K : List ByteArray} (h : StrsS W S v K) (hb : ∀ b, S b → b < W.heap.size → S' b ∧ W'.heap[b]? = W.heap[b]?) : StrsS W' S' v K := by
  obtain ⟨ao, cap, h1, h2⟩ := h
  refine ⟨ao, cap, h1, fun j hj => ?_⟩
  obtain ⟨b, off, e, hs, hc⟩ := h2 j hj
  have hlt := block_lt hc
  exact ⟨b, off, e, (hb b hs hlt).1, (World.cell?_of_block (a := ⟨b, off + j, none⟩) (hb b hs hlt).2).trans hc⟩
theorem TIn.keep {W W' : World} {S S' : Nat → Prop} {x : JC} {T : JT} (h : TIn W S x T) (hb : ∀ b, S b → b < W.heap.size → S' b ∧ W'.heap[b]? = W.heap[b]?) : TIn W' S' x T := by
  induction h with
  | mk k s kv la lc K L xs hK hc hsl ht ih =>
    refine .mk k s kv la lc K L xs (hK.keep hb) (fun i hi => ?_) hsl (fun i hi => ih i hi)
    obtain ⟨b, off, e, hs, hx⟩ := hc i hi
    have h0 := hx 0 (by omega)
    simp only [vcell, List.getElem?_cons_zero] at h0
    have hlt := block_lt h0
    exact ⟨b, off, e, (hb b hs hlt).1, fun r hr => (World.cell?_of_block (a := ⟨b, off + (i * 4 + r), none⟩) (hb b hs hlt).2).trans (hx r hr)⟩
theorem TIn.bel {W W' : World} {S : Nat → Prop} {x : JC} {T : JT} (h : TIn W S x T) (hb : Below W.heap.size W W') : TIn W' S x T := h.keep fun b hs hlt => ⟨hs, hb.block b hlt⟩
/-- Trees that are small enough. -/
inductive LtT : JT → Prop where
  | mk (k : Int) (s : ByteArray) (K : List ByteArray) (L : List JT) (hK : K.length ≤ 100) (hL : L.length ≤ 100) (hs : s.size ≤ 1000) (ht : ∀ i (h : i < L.length), LtT L[i]) : LtT (.mk k s K L)

mutual
/-- Are two trees the same? -/
def eqT : JT → JT → Bool
  | .mk k s K L, .mk k' s' K' L' =>
    if k ≠ k' then false
    else if k = 3 ∨ k = 4 then s.data.toList == s'.data.toList
    else if k = 5 then eqL L L'
    else if k = 6 then decide (K.map (·.data.toList) = K'.map (·.data.toList)) && eqL L L'
    else true
def eqL : List JT → List JT → Bool
  | [], [] => true
  | a :: l, b :: m => eqT a b && eqL l m
  | _, _ => false
end

end Go.Proofs.YtacgocfgcoejpaaDoor
