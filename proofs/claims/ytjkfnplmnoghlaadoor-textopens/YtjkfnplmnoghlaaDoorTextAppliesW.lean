/- The law TextApplies, walked. -/
import Derived.Test.YtjkfnplmnoghlaaDoorTHelp
import Derived.Test.YtjkfnplmnoghlaaDoorTOpened
namespace Go.Proofs.YtjkfnplmnoghlaaDoor
set_option linter.unusedVariables false
set_option linter.unusedSimpArgs false
set_option maxRecDepth 100000
open Go Go.RowKit Go.Shelf Go.Lib

/-- A document behind Apply, as a whole. -/
theorem apply_doc (w : World) (D : Nat) (ver ver2 : Int) (T : List Nat) (E : List Ed) (co : Option Addr) (cc : Nat) (L : List Ch)
    (h : DocIs w D ver T E) (hK : Know w) (hT : T.length ≤ 1048576) (hC : ChsIn w (.slice co L.length cc) L) (hX : ∀ (j : Nat) (x : Ch), L[j]? = some x → x.2.2.2.2.2.length ≤ 1000000) (hL : L.length ≤ 1000000) :
    Calls Tryd.prog 13 #[.pointer (some ⟨D, 0, none⟩), .int .i64 ver2, .slice co L.length cc] w fun e w' => ∃ (r : Int) (NT : List Nat) (Dl : List Ed), e = .returned (.int .i64 r) ∧ ApplyR T L r NT Dl ∧
      ((r ≠ 0 ∧ Below w.heap.size w w') ∨ (r = 0 ∧ DocIs w' D ver2 NT Dl ∧ But D w w')) := by
  obtain ⟨ao, c, lo, ln, lc, eo, ec, h1, h2, h3, h4, h5, h6, h7, h8⟩ := h
  refine (apply_any w D ver ver2 ao c lo ln lc eo E.length ec T co cc L h1 h2 h3 h4 h5 hK hT hC hX hL).mono ?_
  rintro e w' ⟨r, NT, Dl, he, hA, hr | ⟨hr, ao2, c2, lo2, ln2, lc2, eo2, ec2, k1, k2, k3, k4, k5, k6, k7, k8, k9, _⟩⟩
  · exact ⟨r, NT, Dl, he, hA, .inl hr⟩
  · exact ⟨r, NT, Dl, he, hA, .inr ⟨hr, ⟨ao2, c2, lo2, ln2, lc2, eo2, ec2, k1, k2, k3, k4, k5, k6, k7, k8⟩, k9⟩⟩
theorem apply_size {T : List Nat} {L : List Ch} {NT : List Nat} {D : List Ed} (hT : T.length ≤ 1048576) (h : ApplyR T L 0 NT D) : NT.length ≤ 1048576 ∧ D.length = L.length := by
  rcases h with ⟨_, p⟩ | ⟨hr, _⟩
  · exact ⟨pre_size hT p, pre_length p⟩
  · exact absurd rfl hr

set_option maxHeartbeats 16000000 in
theorem textApplies_walk (w : World) (T : List Nat) (hT : ∀ y ∈ T, y < 256) (ver : Int) (hver : (Lit.int .i64 ver).wf = true) (co : Option Addr) (cc : Nat) (L : List Ch) (hC : ChsIn w (.slice co L.length cc) L) (hK : Know w) :
    Calls Tryd.prog 3 #[.string (strOf T), .int .i64 ver, .slice co L.length cc] w fun e w' => e = .returned (.bool true) ∧ Below w.heap.size w w' := by
  have HK := hide hK
  have HC := hide hC
  have HT := hide hT
  have HLI := hide (light_calls w T _ L hC)
  clear hK hC hT hver
  obtain ⟨Ln, hLn⟩ : ∃ Ln, L.length = Ln := ⟨_, rfl⟩
  have HLN := hide hLn
  rw [hLn] at HLI HC ⊢
  clear hLn
  obtain ⟨sT, hsT⟩ : ∃ sT, strOf T = sT := ⟨_, rfl⟩
  have HST := hide hsT
  rw [hsT] at HLI ⊢
  clear hsT
  go_enter Tryd.func3, Tryd.ntmps3
  go_wp2_with fail
  refine HLI.out.mono ?_
  rintro e w1 ⟨b, rfl, hlr, hw1⟩
  rw [hw1]
  clear hw1 HLI
  rcases hlr with rfl | ⟨rfl, t1, t2, t3⟩
  · go_wp2_with fail
    refine (opened_calls w HK.out).mono ?_
    rintro e w2 ⟨rfl, hb2⟩
    have HB2 := hide hb2
    clear hb2
    go_wp2
    go_ret
    exact ⟨rfl, HB2.out⟩
  have T1 := hide t1
  have T2 := hide t2
  have T3 := hide t3
  clear t1 t2 t3
  have hop := open_any w 7 T HK.out HT.out (by have := T1.out; omega)
  rw [HST.out] at hop
  have HOP := hide hop
  clear hop
  go_wp2_with fail
  refine HOP.out.mono ?_
  clear HOP
  rintro e w2 ⟨r, htk, hb2, ⟨hr, rfl⟩ | ⟨rfl, D, rfl, hD, hdoc⟩⟩
  · have HTK := hide htk
    have HR := hide hr
    have HB2 := hide hb2
    have hrt := rtake_calls w2 T HT.out (by have := T1.out; omega)
    rw [HST.out] at hrt
    have HRT := hide hrt
    clear htk hr hb2 hrt
    go_wp2_with fail
    refine HRT.out.mono ?_
    rintro e w3 ⟨r', rfl, htk', hb3⟩
    obtain rfl := take_one HTK.out htk'
    have HB3 := hide (bafter HB2.out hb3 (by have := HB2.out.size; omega))
    have hr := HR.out
    clear htk' hb3 HRT
    go_wp2_with fail
    refine (opened_calls _ (HK.out.below HB3.out)).mono ?_
    rintro e w4 ⟨rfl, hb4⟩
    have HB4 := hide (bafter HB3.out hb4 (by have := HB3.out.size; omega))
    clear hb4
    go_wp2
    go_ret
    exact ⟨rfl, HB4.out⟩
  · have HTK := hide htk
    have HB2 := hide hb2
    have HDOC := hide hdoc
    have HD := hide hD
    have hrt := rtake_calls w2 T HT.out (by have := T1.out; omega)
    rw [HST.out] at hrt
    have HRT := hide hrt
    clear htk hdoc hb2 hrt hD
    go_wp2_with fail
    refine HRT.out.mono ?_
    rintro e w3 ⟨r', rfl, htk', hb3⟩
    obtain rfl := take_one HTK.out htk'
    have HB3 := hide (bafter HB2.out hb3 (by have := HB2.out.size; omega))
    have HDOC3 := hide (HDOC.out.below hb3)
    clear htk' hb3 HRT HDOC HB2 HTK
    have happ := apply_doc w3 D 7 ver T [] co cc L HDOC3.out (HK.out.below HB3.out) (by have := T1.out; omega) (by rw [HLN.out]; exact HC.out.below HB3.out) (fun j x hj => by have := T3.out j x hj; omega) (by have := T2.out; omega)
    rw [HLN.out] at happ
    have HAPP := hide happ
    clear happ
    go_wp2_with fail
    refine HAPP.out.mono ?_
    clear HAPP
    rintro e w4 ⟨r, NT, Dl, rfl, hA, hcase⟩
    have HA := hide hA
    have hb4 : Below w.heap.size w w4 := by
      rcases hcase with ⟨_, h⟩ | ⟨_, _, h⟩
      · exact bafter HB3.out h (by have := HB3.out.size; omega)
      · exact h.after HB3.out HD.out HB3.out.size
    have HB4 := hide hb4
    have HCASE := hide hcase
    clear hA hb4 hcase
    have hch := changes_calls w4 _ L (HC.out.below HB4.out) (by have := T2.out; omega)
    have HCHG := hide hch
    clear hch
    go_wp2_with fail
    refine HCHG.out.mono ?_
    clear HCHG
    rintro e w5 ⟨rv, rfl, hrv, hb5⟩
    have hra := rapply_calls w5 T rv L HT.out (by have := T1.out; omega) hrv (fun j x hj => by have := T3.out j x hj; omega) (by have := T2.out; omega)
    rw [HST.out] at hra
    have HRA := hide hra
    have HS5 := hide hb5
    have HB5 := hide (bafter HB4.out hb5 (by have := HB4.out.size; omega))
    clear hra hrv hb5
    go_wp2_with fail
    refine HRA.out.mono ?_
    clear HRA
    rintro e w6 ⟨r', sv, rv', rfl, ⟨NT', Dl', hA', hgood⟩, hb6⟩
    obtain ⟨rfl, hsame⟩ := apply_one HA.out hA'
    have HSAME := hide hsame
    have HGOOD := hide hgood
    have HS6 := hide (bafter HS5.out hb6 (by have := HS5.out.size; omega))
    have HB6 := hide (bafter HB5.out hb6 (by have := HB5.out.size; omega))
    clear hsame hgood hb6 HS5 HB5
    go_wp2_with fail
    refine (opened_calls _ (HK.out.below HB6.out)).mono ?_
    rintro e w7 ⟨rfl, hb7⟩
    have HS7 := hide (bafter HS6.out hb7 (by have := HS6.out.size; omega))
    have HB7 := hide (bafter HB6.out hb7 (by have := HB6.out.size; omega))
    have H67 := hide hb7
    clear hb7
    rcases HCASE.out with ⟨hr, hbc⟩ | ⟨rfl, hdoc, hbut⟩
    · have HD7 := hide (HDOC3.out.below (bafter hbc HS7.out (by have := hbc.size; omega)))
      clear hbc
      have hby := bytes_any w7 D 7 T [] HD7.out (by have := T1.out; omega)
      have HBY := hide hby
      clear hby
      go_wp2_with fail
      refine HBY.out.mono ?_
      clear HBY
      rintro e w8 ⟨ao8, c8, rfl, hy8, hb8⟩
      have hcv := conv_byts hy8.1
      rw [HST.out] at hcv
      have HD8 := hide (HD7.out.below hb8)
      have HB8 := hide (bafter HB7.out hb8 (by have := HB7.out.size; omega))
      have v0 : w8.cell? ⟨D, 0, none⟩ = some (.int .i64 7) := by
        obtain ⟨_, _, _, _, _, _, _, h1, _⟩ := HD8.out
        exact BoxC.cell h1 0
      have lD : D < w8.heap.size := HD8.out.lt
      clear hy8 hb8
      have HED := hide (edits_any w8 D 7 T [] HD8.out (by simp))
      go_wp2_with fail
      refine HED.out.mono ?_
      clear HED
      rintro e w9 ⟨ao9, c9, rfl, hy9, hb9⟩
      have HB9 := hide (bafter HB8.out hb9 (by have := HB8.out.size; omega))
      clear hy9 hb9
      go_wp2
      go_ret
      exact ⟨by simp, HB9.out⟩
    · obtain ⟨rfl, rfl⟩ := HSAME.out rfl
      obtain ⟨rfl, hed⟩ := HGOOD.out rfl
      obtain ⟨z1, z2⟩ := apply_size (by have := T1.out; omega) HA.out
      have Z1 := hide z1
      have Z2 := hide z2
      have HD7 := hide (hdoc.below HS7.out)
      have HED7 := hide (hed.below H67.out)
      clear hdoc hed hbut z1 z2
      have hby := bytes_any w7 D ver NT Dl HD7.out (by have := Z1.out; omega)
      have HBY := hide hby
      clear hby
      generalize hsn : strOf NT = sn at *
      have HSN := hide hsn
      clear hsn
      go_wp2_with fail
      refine HBY.out.mono ?_
      clear HBY
      rintro e w8 ⟨ao8, c8, rfl, hy8, hb8⟩
      have hcv := conv_byts hy8.1
      rw [HSN.out] at hcv
      have HD8 := hide (HD7.out.below hb8)
      have HB8 := hide (bafter HB7.out hb8 (by have := HB7.out.size; omega))
      have HED8 := hide (HED7.out.below hb8)
      have v0 : w8.cell? ⟨D, 0, none⟩ = some (.int .i64 ver) := by
        obtain ⟨_, _, _, _, _, _, _, h1, _⟩ := HD8.out
        exact BoxC.cell h1 0
      have lD : D < w8.heap.size := HD8.out.lt
      clear hy8 hb8
      have HED := hide (edits_any w8 D ver NT Dl HD8.out (by have := Z2.out; have := T2.out; omega))
      go_wp2_with fail
      refine HED.out.mono ?_
      clear HED
      rintro e w9 ⟨ao9, c9, rfl, hy9, hb9⟩
      have HB9 := hide (bafter HB8.out hb9 (by have := HB8.out.size; omega))
      have HSM := hide (same_calls w9 _ _ Dl hy9 (HED8.out.below hb9) (by have := Z2.out; have := T2.out; omega))
      clear hy9 hb9
      go_wp2_with fail
      refine HSM.out.mono ?_
      rintro e w10 ⟨rfl, hb10⟩
      have HB10 := hide (bafter HB9.out hb10 (by have := HB9.out.size; omega))
      clear hb10
      go_wp2
      go_ret
      exact ⟨by simp, HB10.out⟩

end Go.Proofs.YtjkfnplmnoghlaaDoor
