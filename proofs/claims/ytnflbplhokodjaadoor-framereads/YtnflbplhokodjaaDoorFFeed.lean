/- Frame: Feed: bytes more of a stream. -/
import Derived.Test.YtnflbplhokodjaaDoorFTake3
import Derived.Deep.AppendLies
namespace Go.Proofs.YtnflbplhokodjaaDoor
set_option linter.unusedVariables false
set_option linter.unusedSimpArgs false
set_option maxRecDepth 100000
open Go Go.RowKit Go.Shelf Go.Lib

theorem infoMsg : (Tryd.prog.info? 34).map (fun i => (i.zero, i.size, i.bytes)) = some (some (.agg #[.int .i64 0, .slice none 0 0]), 2, 32) := by kernel_rfl
/-- Messages as cells: kinds and bodies. -/
def mcell (x : Nat × Value) : List Value := [.int .i64 (x.1 : Int), x.2]
def mcells (L : List (Nat × Value)) : List Value := L.flatMap mcell
theorem mcells_snoc (L : List (Nat × Value)) (x : Nat × Value) : mcells (L ++ [x]) = mcells L ++ mcell x := by simp [mcells]
theorem mcells_at : ∀ (L : List (Nat × Value)) (j : Nat) (x : Nat × Value), L[j]? = some x → (mcells L)[j * 2]? = some (.int .i64 (x.1 : Int)) ∧ (mcells L)[j * 2 + 1]? = some x.2 := by
  intro L
  induction L with
  | nil => intro j x h; simp at h
  | cons a l ih =>
    intro j x h
    cases j with
    | zero => simp at h; subst h; exact ⟨rfl, rfl⟩
    | succ j =>
      have := ih j x (by simpa using h)
      have e : mcells (a :: l) = [.int .i64 (a.1 : Int), a.2] ++ mcells l := rfl
      rw [e, show (j + 1) * 2 = j * 2 + 2 by omega]
      constructor
      · rw [List.getElem?_append_right (by simp)]; exact this.1
      · rw [List.getElem?_append_right (by simp)]; exact this.2
/-- Messages that came: their kinds, and their bodies in memory. -/
def Bods (n₀ : Nat) (w : World) : List (Nat × Value) → List Msg → Prop
  | [], [] => True
  | x :: L, m :: ms => x.1 = m.1 ∧ OwnB n₀ w x.2 m.2 ∧ (∀ y ∈ m.2, y < 256) ∧ Bods n₀ w L ms
  | _, _ => False
theorem Bods.len {n₀ : Nat} {w : World} : ∀ {L : List (Nat × Value)} {ms : List Msg}, Bods n₀ w L ms → L.length = ms.length
  | [], [], _ => rfl
  | x :: L, m :: ms, h => by simp [Bods.len h.2.2.2]
theorem Bods.snoc {n₀ : Nat} {w : World} : ∀ {L : List (Nat × Value)} {ms : List Msg} {x : Nat × Value} {m : Msg}, Bods n₀ w L ms → x.1 = m.1 → OwnB n₀ w x.2 m.2 → (∀ y ∈ m.2, y < 256) → Bods n₀ w (L ++ [x]) (ms ++ [m])
  | [], [], _, _, _, h1, h2, h3 => ⟨h1, h2, h3, trivial⟩
  | _ :: _, _ :: _, _, _, h, h1, h2, h3 => ⟨h.1, h.2.1, h.2.2.1, Bods.snoc h.2.2.2 h1 h2 h3⟩
theorem Bods.keep {n₀ : Nat} {w w' : World} : ∀ {L : List (Nat × Value)} {ms : List Msg}, Bods n₀ w L ms → (∀ x ∈ L, ∀ k, x.2.ownBlock = some k → w'.heap[k]? = w.heap[k]?) → Bods n₀ w' L ms
  | [], [], _, _ => trivial
  | x :: L, m :: ms, h, hk => ⟨h.1, OwnB.keep h.2.1 (hk x (by simp)), h.2.2.1, Bods.keep h.2.2.2 (fun y hy => hk y (by simp [hy]))⟩
theorem Bods.at {n₀ : Nat} {w : World} : ∀ {L : List (Nat × Value)} {ms : List Msg} {j : Nat} {x : Nat × Value}, Bods n₀ w L ms → L[j]? = some x → ∃ m, ms[j]? = some m ∧ x.1 = m.1 ∧ OwnB n₀ w x.2 m.2 ∧ ∀ y ∈ m.2, y < 256
  | y :: L, m :: ms, 0, x, h, e => by simp at e; subst e; exact ⟨m, rfl, h.1, h.2.1, h.2.2.1⟩
  | y :: L, m :: ms, j + 1, x, h, e => by simpa using Bods.at h.2.2.2 (by simpa using e)
theorem Bods.kind {n₀ : Nat} {w : World} {L : List (Nat × Value)} {ms : List Msg} (h : Bods n₀ w L ms) {x : Nat × Value} (hx : x ∈ L) {k : Nat} (e : x.2.ownBlock = some k) : n₀ ≤ k ∧ ∃ c fz, w.heap[k]? = some (.cells c 5 fz) := by
  obtain ⟨j, hj⟩ := List.getElem?_of_mem hx
  obtain ⟨m, _, _, ho, _⟩ := h.at hj
  exact ⟨(World.ownsRow.lt ho k e).1, Lib.ownsRow_kind ho k e⟩
/-- A row of messages. -/
def OwnM (n₁ : Nat) (w : World) (v : Value) (L : List (Nat × Value)) : Prop := w.ownsRow n₁ 34 2 v L.length (mcells L)
theorem OwnM.keep {n₁ : Nat} {w w' : World} {v : Value} {L : List (Nat × Value)} (q : OwnM n₁ w v L) (hk : ∀ k, v.ownBlock = some k → w'.heap[k]? = w.heap[k]?) : OwnM n₁ w' v L := by
  rcases id q.2 with ⟨rfl, h0⟩ | ⟨g, cap, cur, rfl, hg, hh, hn, hm, hc, ht⟩
  · exact ⟨q.1, .inl ⟨rfl, h0⟩⟩
  · exact ⟨q.1, .inr ⟨g, cap, cur, rfl, hg, by rw [hk g rfl, hh], hn, hm, hc, ht⟩⟩
theorem OwnM.kind {n₁ : Nat} {w : World} {v : Value} {L : List (Nat × Value)} (q : OwnM n₁ w v L) {k : Nat} (e : v.ownBlock = some k) : n₁ ≤ k ∧ k < w.heap.size ∧ ∃ c fz, w.heap[k]? = some (.cells c 34 fz) :=
  ⟨(World.ownsRow.lt q k e).1, (World.ownsRow.lt q k e).2, Lib.ownsRow_kind q k e⟩
theorem OwnM.slice {n₁ : Nat} {w : World} {v : Value} {L : List (Nat × Value)} (q : OwnM n₁ w v L) : ∃ ao c, v = .slice ao L.length c := by
  rcases id q.2 with ⟨rfl, h0⟩ | ⟨g, cap, cur, rfl, hg, hh, hn, hm, hc, ht⟩
  · exact ⟨none, 0, by rw [h0]⟩
  · exact ⟨_, _, rfl⟩
theorem Rdr.kind {n₀ : Nat} {w : World} {R : Nat} {s : St} {row : Option Nat} (h : Rdr n₀ w R s row) {k : Nat} (e : row = some k) : ∃ c fz, w.heap[k]? = some (.cells c 5 fz) := by
  cases s with
  | head h0 => obtain ⟨lv, hb, ho, hr, _⟩ := h; exact Lib.ownsRow_kind ho k (by rw [← hr, e])
  | body l got => obtain ⟨lv, hb, ho, hr, _⟩ := h; exact Lib.ownsRow_kind ho k (by rw [← hr, e])
  | skip l => rw [h.2.1] at e; cases e
  | nothing => rw [h.2] at e; cases e
theorem Fr.grownNew {R : Nat} {row row2 : Option Nat} {w W W' : World} (h : Fr R row w W) (hg : W.grownBy W' row2) (hn : ∀ g, row2 = some g → w.heap.size ≤ g) : Fr R row w W' := by
  have b := (Below.refl 0 W).grown hg (Nat.zero_le _) (fun _ _ => Nat.zero_le _)
  exact ⟨b.os.trans h.1, b.tape.trans h.2.1, b.output.trans h.2.2.1, Nat.le_trans h.size b.size, fun k hk hne hr => (hg.block k (Nat.lt_of_lt_of_le hk h.size) (fun e => by have := hn k e.symm; omega)).trans (h.block hk hne hr)⟩
theorem Byts.frp {R : Nat} {row : Option Nat} {w w' : World} {ao : Option Addr} {cap : Nat} {T : List Nat} (h : Byts w (.slice ao T.length cap) T) (k : Fr R row w w') (hne : 0 < T.length → ∀ a, ao = some a → a.block ≠ R ∧ row ≠ some a.block) : Byts w' (.slice ao T.length cap) T := by
  obtain ⟨ao', c, e, h1, h2⟩ := h
  cases e
  refine ⟨ao, cap, rfl, h1, fun j hj => ?_⟩
  obtain ⟨b, off, e, hc⟩ := h2 j hj
  obtain ⟨q1, q2⟩ := hne (by omega) _ e
  exact ⟨b, off, e, (k.cell (p := ⟨b, off + j, none⟩) (block_lt hc) q1 q2).trans hc⟩

/-- A reader under way: the messages that came so far, and what it is. -/
def MidX (n₀ : Nat) (w : World) (R : Nat) (row : Option Nat) (s : St) (ms : List Msg) (gv : Value) (w' : World) (L : List (Nat × Value)) (row' : Option Nat) : Prop :=
  OwnM w.heap.size w' gv L ∧ Bods n₀ w' L ms ∧ Rdr n₀ w' R s row' ∧ RowTo w row row' ∧ Fr R row w w' ∧ (∀ x ∈ L, ∀ j, x.2.ownBlock = some j → row' ≠ some j)
def lenV : Value → Nat
  | .slice _ n _ => n
  | _ => 0
theorem mid_start {n₀ : Nat} {w : World} {R : Nat} {row : Option Nat} {s : St} (h : Rdr n₀ w R s row) : MidX n₀ w R row s [] (.slice none 0 0) w [] row := ⟨World.ownsRow_nil _ _ _ _, trivial, h, .inr (.inl rfl), Fr.refl _ _ _, fun x hx => by cases hx⟩
theorem mid_below {n₀ : Nat} {w W W' : World} {R : Nat} {row row' : Option Nat} {s : St} {ms : List Msg} {gv : Value} {L : List (Nat × Value)} (h : MidX n₀ w R row s ms gv W L row') (hb : Below W.heap.size W W') : MidX n₀ w R row s ms gv W' L row' := by
  obtain ⟨h1, h2, h3, h4, h5, h6⟩ := h
  exact ⟨h1.keep fun k e => hb.block k (h1.kind e).2.1, h2.keep fun x hx k e => (by
    obtain ⟨_, c, fz, q3⟩ := h2.kind hx e
    exact hb.block k (Array.getElem?_eq_some_iff.1 q3).1), h3.below hb, h4, h5.then hb, h6⟩
theorem mid_take {n₀ : Nat} {w w1 w2 : World} {R : Nat} {row row1 : Option Nat} {s s2 : St} {ms ms2 : List Msg} {gv k bv : Value} {L : List (Nat × Value)} (h : MidX n₀ w R row s ms gv w1 L row1) (ht : TakeR n₀ w1 R row1 s2 ms2 k bv w2) :
    ∃ row2, MidX n₀ w R row s2 ms gv w2 L row2 ∧ MsgV n₀ w2 k bv ms2 ∧ ∀ j, bv.ownBlock = some j → row2 ≠ some j := by
  obtain ⟨h1, h2, h3, h4, h5, h6⟩ := h
  obtain ⟨row2, t1, t2, t3, t4, t5, t6⟩ := ht
  have hk : ∀ k, k < w1.heap.size → k ≠ R → row1 ≠ some k → w2.heap[k]? = w1.heap[k]? := fun k a b c => t3.block a b c
  obtain ⟨cs, hbx⟩ := h3.box
  have hR : ∀ {k : Nat} {c : Array Value} {t : TypeId} {fz : Nat × Nat}, w1.heap[k]? = some (.cells c t fz) → t ≠ 48 → k ≠ R := fun e ht q => by
    subst q; rw [show w1.heap[_]? = _ from hbx] at e; cases e; exact ht rfl
  refine ⟨row2, ⟨?_, ?_, t2, h4.trans t4 h5.size, h5.trans t3 h4, ?_⟩, t1, t6⟩
  · refine h1.keep fun k e => ?_
    obtain ⟨q1, q2, c, fz, q3⟩ := h1.kind e
    refine hk k q2 (hR q3 (by decide)) (fun e2 => ?_)
    obtain ⟨c', fz', q4⟩ := h3.kind e2
    rw [q3] at q4; cases q4
  · refine h2.keep fun x hx k e => ?_
    obtain ⟨q1, c, fz, q3⟩ := h2.kind hx e
    exact hk k (Array.getElem?_eq_some_iff.1 q3).1 (hR q3 (by decide)) (h6 x hx k e)
  · intro x hx j e q
    rcases t4 with z | z | ⟨i, z, hi⟩
    · rw [z] at q; cases q
    · exact h6 x hx j e (by rw [← z, q])
    · rw [q] at z; cases z
      obtain ⟨_, c, fz, q3⟩ := h2.kind hx e
      have := (Array.getElem?_eq_some_iff.1 q3).1
      omega
theorem mid_app {n₀ : Nat} {w W W' : World} {R : Nat} {row row2 : Option Nat} {s : St} {ms : List Msg} {gv gv' k bv : Value} {L : List (Nat × Value)} {m : Nat} {B : List Nat} (h : MidX n₀ w R row s ms gv W L row2) (hm : MsgV n₀ W k bv [(m, B)]) (hs : ∀ j, bv.ownBlock = some j → row2 ≠ some j)
    (ho : W'.ownsRow w.heap.size 34 2 gv' (L.length + 1) (mcells L ++ [.int .i64 (m : Int), bv])) (hg : W.grownBy W' gv.ownBlock) : MidX n₀ w R row s (ms ++ [(m, B)]) gv' W' (L ++ [(m, bv)]) row2 := by
  obtain ⟨h1, h2, h3, h4, h5, h6⟩ := h
  have hk : ∀ k, k < W.heap.size → (∀ c fz, W.heap[k]? ≠ some (.cells c 34 fz)) → W'.heap[k]? = W.heap[k]? := fun k a b => hg.block k a (fun e => by
    obtain ⟨q1, q2, c, fz, q3⟩ := h1.kind e.symm
    exact b c fz q3)
  have hu8 : ∀ {k : Nat} {c : Array Value} {fz : Nat × Nat}, W.heap[k]? = some (.cells c 5 fz) → W'.heap[k]? = W.heap[k]? := fun e => hk _ (Array.getElem?_eq_some_iff.1 e).1 (fun c' fz' q => by rw [e] at q; cases q)
  obtain ⟨cs, hbx⟩ := h3.box
  have hR : W'.heap[R]? = W.heap[R]? := hk R hbx.lt (fun c' fz' q => by rw [show W.heap[R]? = _ from hbx] at q; cases q)
  refine ⟨?_, ?_, ?_, h4, h5.grownNew hg (fun g e => (h1.kind e).1), ?_⟩
  · unfold OwnM
    rw [mcells_snoc, List.length_append]
    exact ho
  · refine (h2.keep fun x hx k e => ?_).snoc rfl (OwnB.keep hm.2.2.1 fun k e => ?_) hm.2.2.2
    · obtain ⟨_, c, fz, q3⟩ := h2.kind hx e
      exact hu8 q3
    · obtain ⟨c, fz, q3⟩ := Lib.ownsRow_kind hm.2.2.1 k e
      exact hu8 q3
  · refine h3.keep fun k e => ?_
    rcases e with rfl | e
    · exact hR
    · obtain ⟨c, fz, q3⟩ := h3.kind e
      exact hu8 q3
  · intro x hx j e
    rcases List.mem_append.1 hx with q | q
    · exact h6 x q j e
    · simp at q; subst q; exact hs j e

/-- What Feed answers. -/
def FeedR (n₀ : Nat) (w : World) (R : Nat) (row : Option Nat) (s : St) (T : List Nat) (gv : Value) (w' : World) : Prop :=
  ∃ L row', MidX n₀ w R row (feedL s T).1 (feedL s T).2 gv w' L row'

set_option maxHeartbeats 8000000 in
theorem feed_calls (w : World) (n₀ R : Nat) (s : St) (row : Option Nat) (ao : Option Addr) (cap : Nat) (T : List Nat) (hr : Rdr n₀ w R s row) (hn2 : T.length ≤ 100000000) (hB : Byts w (.slice ao T.length cap) T) (hcap : T.length ≤ cap) (hfar : 0 < T.length → ∀ a, ao = some a → a.block ≠ R ∧ row ≠ some a.block) (hnw : n₀ ≤ w.heap.size) (hR : n₀ ≤ R) (hK : Know w) (hG : Glob n₀) :
    Calls Tryd.prog 12 #[.pointer (some ⟨R, 0, none⟩), .slice ao T.length cap] w fun e w' => ∃ gv, e = .returned gv ∧ FeedR n₀ w R row s T gv w' := by
  obtain ⟨i0, hi, hz0, hz1, hz2⟩ := info_parts infoMsg
  have hrow := hr.row
  have hm0 := mid_start hr
  have HB := hide hB
  have HM0 := hide hm0
  have HROW := hide hrow
  have HK := hide hK
  have HFAR := hide hfar
  clear hr hrow hm0 hB hK hfar
  go_enter Tryd.func12, Tryd.ntmps12
  go_wp2
  go_loopw [1, 5] (fun bv gv wr => ∃ (p : Nat) (a' : Option Addr) (c' : Nat) (L : List (Nat × Value)) (row' : Option Nat), p ≤ T.length ∧ bv = .slice a' (T.length - p) c' ∧ Byts w (.slice a' (T.length - p) c') (T.drop p) ∧ T.length - p ≤ c' ∧ (0 < T.length - p → ∀ a, a' = some a → a.block ≠ R ∧ row ≠ some a.block) ∧ L.length ≤ p ∧ MidX n₀ w R row (feedL s (T.take p)).1 (feedL s (T.take p)).2 gv wr L row') (fun bv _ _ => lenV bv)
  case atStart => exact ⟨0, ao, cap, [], row, Nat.zero_le _, rfl, HB.out, hcap, HFAR.out, Nat.zero_le _, HM0.out⟩
  case round =>
    obtain ⟨p, a', c', L, row', hp, rfl, hB, hcap', hfar, hL, hmid⟩ := hrel
    have HMID := hide hmid
    clear hmid HM0
    by_cases hlt : T.length - p = 0
    · have hpe : p = T.length := by omega
      have d0 : ¬ (0 : Int) < ((T.length - p : Nat) : Int) := by omega
      obtain ⟨ga, gc, hgv⟩ := HMID.out.1.slice
      subst hgv
      have HF : Hid (FeedR n₀ w R row s T (.slice ga L.length gc) wr) := by
        refine ⟨L, row', ?_⟩
        have := HMID.out
        rw [hpe, List.take_length] at this
        exact this
      clear hpe hB hfar
      generalize T.length - p = q at *
      generalize L.length = LL at *
      go_wp2
      go_ret
      exact ⟨_, rfl, HF.out⟩
    · have hld : (T.drop p).length = T.length - p := by simp
      have d0 : (0 : Int) < ((T.length - p : Nat) : Int) := by omega
      have hfr := HMID.out.2.2.2.2.1
      have hrd := HMID.out.2.2.1
      have hBw : Byts wr (.slice a' (T.drop p).length c') (T.drop p) := by
        have h0 := hB
        rw [← hld] at h0
        exact h0.frp hfr (fun _ => hfar (by omega))
      have hKw : Know wr := HK.out.fr hG hfr hR (fun j e => (HROW.out j e).1) hnw
      have HC := hide (take_calls wr n₀ R (feedL s (T.take p)).1 row' a' c' (T.drop p) hrd (by omega) (by omega) hBw (by omega) (by have := hfr.size; omega) hR hKw hG)
      have HBR := hide hB
      have HFR := hide hfar
      have HAPP : Hid (∀ n, feedL s (T.take (p + n)) = ((feedL (feedL s (T.take p)).1 ((T.drop p).take n)).1, (feedL s (T.take p)).2 ++ (feedL (feedL s (T.take p)).1 ((T.drop p).take n)).2)) := fun n => by
        rw [List.take_add, feed_app]
      rw [hld] at HC
      have HLD := hide hld
      have hq1 : T.length - p ≤ 100000000 := by omega
      have HPQ : Hid (p + (T.length - p) = T.length) := by show _ = _; omega
      have HDR : Hid (∀ n, (T.drop p).drop n = T.drop (p + n)) := fun n => by rw [List.drop_drop]
      generalize hs1 : (feedL s (T.take p)).1 = s1 at *
      generalize hms : (feedL s (T.take p)).2 = ms at *
      generalize T.drop p = Tp at *
      generalize hTq : T.length - p = q at *
      have HTQ := hide hTq
      have hq0 : 0 < q := by omega
      have HP := hide hp
      have HLL := hide hL
      have hLb : L.length ≤ 100000000 := by omega
      clear hB hfar hrd hBw hKw hfr hs1 hms hld hTq hlt hp hL
      go_wp2_with fail
      refine HC.out.mono ?_
      rintro e w2 ⟨n, k, bv, rfl, hn1, hnq, ht⟩
      obtain ⟨row2, hmid2, hmsg, hsep⟩ := mid_take HMID.out ht
      obtain ⟨z, ba, bn, bc, rfl, rfl⟩ := hmsg.form
      have hb2 := bel w2 (.cells #[.int .i64 z, .slice ba bn bc] 34)
      have xM := BoxC.new w2 34 #[.int .i64 z, .slice ba bn bc]
      have mid3 := mid_below hmid2 hb2
      have msg3 := hmsg.keep (w' := w2.alloc (.cells #[.int .i64 z, .slice ba bn bc] 34)) (fun j e => hb2.block j (hmsg.lt j e).2)
      obtain ⟨W2, hW2⟩ : ∃ W2, w2.alloc (.cells #[.int .i64 z, .slice ba bn bc] 34) = W2 := ⟨_, rfl⟩
      rw [hW2] at xM mid3 msg3
      have m0 : W2.cell? ⟨w2.heap.size, 0, none⟩ = some (.int .i64 z) := xM.cell 0
      have m1 : W2.cell? ⟨w2.heap.size, 1, none⟩ = some (.slice ba bn bc) := xM.cell 1
      have lM := xM.lt
      have q1 := fun W : World => cut_rest W a' q c' n (by omega) hcap'
      have HRS := hide (Byts.rest (T := Tp) (f := n) (ao := a') (cap := c') (W := w) (by have := HLD.out; rw [this]; exact HBR.out) (by have := HLD.out; omega) (by have := HLD.out; omega))
      rw [HLD.out, HDR.out] at HRS
      have HFN : Hid (0 < q - n → ∀ a, (if c' = n then a' else a'.map (·.add n)) = some a → a.block ≠ R ∧ row ≠ some a.block) := fun h0 a e => by
        rw [if_neg (by omega)] at e
        cases ha : a' with
        | none => rw [ha] at e; cases e
        | some a0 =>
          rw [ha] at e
          have e' : a0.add n = a := by simpa using e
          have hb : a.block = a0.block := by rw [← e']; unfold Addr.add; split <;> rfl
          rw [hb]
          exact HFR.out (by omega) a0 ha
      generalize (if c' = n then a' else a'.map (·.add n)) = aN at *
      have HW2 := hide hW2
      have HM3 := hide mid3
      have HG3 := hide msg3
      have HSP := hide hsep
      have HN1 := hide hn1
      have HNQ := hide hnq
      clear hW2 mid3 msg3 hsep xM hb2 hmid2 hmsg ht HC HMID
      go_upto_region 6 with fail
      rw [HW2.out]
      clear HW2
      have hnb : n ≤ 100000000 := by omega
      have HAP := hide (HAPP.out n)
      generalize (feedL s1 (Tp.take n)).2 = ms2 at *
      generalize (feedL s1 (Tp.take n)).1 = s2 at *
      have HREL : Hid (p + n ≤ T.length ∧ q - n = T.length - (p + n)) := by
        have := HTQ.out
        have := HPQ.out
        show _ ∧ _
        omega
      match ms2, HG3 with
      | [], HG3 =>
        obtain rfl : z = 0 := by have := HG3.out.1; unfold zeroI at this; cases this; rfl
        clear hn1 hnq
        go_wp2
        go_roundw
        case rel =>
          refine ⟨p + n, aN, c' - n, L, row2, HREL.out.1, by rw [HREL.out.2], ?_, ?_, ?_, ?_, ?_⟩
          · rw [← HREL.out.2]; exact HRS.out
          · rw [← HREL.out.2]; omega
          · rw [← HREL.out.2]; exact HFN.out
          · have := HLL.out; omega
          · rw [HAP.out, List.append_nil]; exact HM3.out
        case measure => have := HN1.out; have := HNQ.out; simp [lenV]; omega
      | [(m, B)], HG3 =>
        obtain rfl : z = (m : Int) := by have := HG3.out.2.1; cases this; rfl
        have hmz : ((m : Int) != 0) = true := by have := HG3.out.1; simp; omega
        have hb3 := bel W2 (.cells #[.int .i64 (m : Int), .slice ba bn bc] 34)
        have HM4 := hide (mid_below HM3.out hb3)
        have HG4 := hide (HG3.out.keep (w' := W2.alloc (.cells #[.int .i64 (m : Int), .slice ba bn bc] 34)) (fun j e => hb3.block j (HG3.out.lt j e).2))
        have HOW : Hid ((W2.alloc (.cells #[.int .i64 (m : Int), .slice ba bn bc] 34)).ownsRow w.heap.size 34 2 u5 L.length (mcells L)) := HM4.out.1
        have HSZ : Hid (w.heap.size ≤ (W2.alloc (.cells #[.int .i64 (m : Int), .slice ba bn bc] 34)).heap.size) := HM4.out.2.2.2.2.1.size
        have HONE : Hid (∀ u ∈ ([.int .i64 (m : Int), .slice ba bn bc] : List Value), u.oneCell' = true) := fun u hu => by
          simp at hu
          rcases hu with rfl | rfl <;> rfl
        clear hn1 hnq hb3
        go_wp2_with (at_builtin; go_must (refine wpList_append_own _ rfl (.tmp 25) (.tmp 27) 30 rfl w.heap.size 34 i0 (.agg #[.int .i64 0, .slice none 0 0]) 2 32 Tryd.underlying30 hi hz0 hz1 hz2 rfl (by decide) _ L.length (mcells L) rfl HOW.out ⟨W2.heap.size, 0, none⟩ 1 1 [.int .i64 (m : Int), .slice ba bn bc] rfl rfl (by exact World.news_of_block (World.alloc_heap_new _ _)) HONE.out (by unfold maxLen; omega) (by omega) HSZ.out ?_; intro gv' W4 hown' hgrow hnil); have HM5 := hide (mid_app HM4.out HG4.out HSP.out hown' hgrow); clear hown' hgrow hnil)
        go_roundw
        case rel =>
          refine ⟨p + n, aN, c' - n, L ++ [(m, .slice ba bn bc)], row2, HREL.out.1, by rw [HREL.out.2], ?_, ?_, ?_, ?_, ?_⟩
          · rw [← HREL.out.2]; exact HRS.out
          · rw [← HREL.out.2]; omega
          · rw [← HREL.out.2]; exact HFN.out
          · have := HLL.out; have := HN1.out; simp; omega
          · rw [HAP.out]; exact HM5.out
        case measure => have := HN1.out; have := HNQ.out; simp [lenV]; omega
      | _ :: _ :: _, HG3 => exact HG3.out.elim

end Go.Proofs.YtnflbplhokodjaaDoor
