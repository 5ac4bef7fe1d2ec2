/- The words of the language, as lex tells them. -/
import Derived.Test.YtehflaenehehhaaLSmall
namespace Go.Proofs.Ytehflaenehehhaa
set_option linter.unusedVariables false
set_option linter.unusedSimpArgs false
set_option maxRecDepth 100000
open Go Go.RowKit Go.Shelf Go.Lib

/-- The words of the language, byte by byte. -/
def wordsL : List (List UInt8) := [[102, 110], [112, 117, 98], [113, 117, 97, 108], [108, 101, 116], [105, 110], [105, 102], [116, 104, 101, 110], [101, 108, 115, 101], [97, 115, 115, 101, 114, 116], [116, 114, 117, 101], [102, 97, 108, 115, 101], [105, 110, 116], [98, 111, 111, 108], [97, 114, 114], [103, 101, 116], [115, 101, 116], [108, 101, 110], [102, 105, 108, 108], [110, 111, 116], [97, 110, 100], [111, 114], [118]]
/-- Is a text a word? -/
def isW (s : ByteArray) : Bool := wordsL.any (fun l => s.data.toList == l)

theorem lit_list (s : ByteArray) (l : List UInt8) : (s.toList == l) = (s.data.toList == l) := by
  rw [toList_data]

set_option maxHeartbeats 4000000 in
theorem isWord_calls (w : World) (s : ByteArray) :
    Calls Try.prog 16 #[.string s] w fun e w' => e = .returned (.bool (isW s)) ∧ w' = w := by
  have HW : Hid (isW s = ((s.data.toList == ([102, 110] : List UInt8) || (s.data.toList == ([112, 117, 98] : List UInt8) || (s.data.toList == ([113, 117, 97, 108] : List UInt8) || (s.data.toList == ([108, 101, 116] : List UInt8) || (s.data.toList == ([105, 110] : List UInt8) || (s.data.toList == ([105, 102] : List UInt8) || (s.data.toList == ([116, 104, 101, 110] : List UInt8) || (s.data.toList == ([101, 108, 115, 101] : List UInt8) || (s.data.toList == ([97, 115, 115, 101, 114, 116] : List UInt8) || (s.data.toList == ([116, 114, 117, 101] : List UInt8) || (s.data.toList == ([102, 97, 108, 115, 101] : List UInt8) || (s.data.toList == ([105, 110, 116] : List UInt8) || (s.data.toList == ([98, 111, 111, 108] : List UInt8) || (s.data.toList == ([97, 114, 114] : List UInt8) || (s.data.toList == ([103, 101, 116] : List UInt8) || (s.data.toList == ([115, 101, 116] : List UInt8) || (s.data.toList == ([108, 101, 110] : List UInt8) || (s.data.toList == ([102, 105, 108, 108] : List UInt8) || (s.data.toList == ([110, 111, 116] : List UInt8) || (s.data.toList == ([97, 110, 100] : List UInt8) || (s.data.toList == ([111, 114] : List UInt8) || (s.data.toList == ([118] : List UInt8) || false)))))))))))))))))))))))) := by
    show isW s = _
    unfold isW wordsL
    simp only [List.any_cons, List.any_nil]
  by_cases h0 : (s.data.toList == ([102, 110] : List UInt8)) = true
  · have g0 := (lit_list s [102, 110]).trans h0
    have e : isW s = true := by rw [HW.out, h0]; simp
    rw [e]
    clear e HW h0
    go_enter Try.func16, Try.ntmps16
    go_wp2
    go_ret
    exact ⟨rfl, rfl⟩
  replace h0 : (s.data.toList == ([102, 110] : List UInt8)) = false := by simpa using h0
  have g0 := (lit_list s [102, 110]).trans h0
  rw [h0, Bool.false_or] at HW
  by_cases h1 : (s.data.toList == ([112, 117, 98] : List UInt8)) = true
  · have g1 := (lit_list s [112, 117, 98]).trans h1
    have e : isW s = true := by rw [HW.out, h1]; simp
    rw [e]
    clear e HW h1
    go_enter Try.func16, Try.ntmps16
    go_wp2
    go_ret
    exact ⟨rfl, rfl⟩
  replace h1 : (s.data.toList == ([112, 117, 98] : List UInt8)) = false := by simpa using h1
  have g1 := (lit_list s [112, 117, 98]).trans h1
  rw [h1, Bool.false_or] at HW
  by_cases h2 : (s.data.toList == ([113, 117, 97, 108] : List UInt8)) = true
  · have g2 := (lit_list s [113, 117, 97, 108]).trans h2
    have e : isW s = true := by rw [HW.out, h2]; simp
    rw [e]
    clear e HW h2
    go_enter Try.func16, Try.ntmps16
    go_wp2
    go_ret
    exact ⟨rfl, rfl⟩
  replace h2 : (s.data.toList == ([113, 117, 97, 108] : List UInt8)) = false := by simpa using h2
  have g2 := (lit_list s [113, 117, 97, 108]).trans h2
  rw [h2, Bool.false_or] at HW
  by_cases h3 : (s.data.toList == ([108, 101, 116] : List UInt8)) = true
  · have g3 := (lit_list s [108, 101, 116]).trans h3
    have e : isW s = true := by rw [HW.out, h3]; simp
    rw [e]
    clear e HW h3
    go_enter Try.func16, Try.ntmps16
    go_wp2
    go_ret
    exact ⟨rfl, rfl⟩
  replace h3 : (s.data.toList == ([108, 101, 116] : List UInt8)) = false := by simpa using h3
  have g3 := (lit_list s [108, 101, 116]).trans h3
  rw [h3, Bool.false_or] at HW
  by_cases h4 : (s.data.toList == ([105, 110] : List UInt8)) = true
  · have g4 := (lit_list s [105, 110]).trans h4
    have e : isW s = true := by rw [HW.out, h4]; simp
    rw [e]
    clear e HW h4
    go_enter Try.func16, Try.ntmps16
    go_wp2
    go_ret
    exact ⟨rfl, rfl⟩
  replace h4 : (s.data.toList == ([105, 110] : List UInt8)) = false := by simpa using h4
  have g4 := (lit_list s [105, 110]).trans h4
  rw [h4, Bool.false_or] at HW
  by_cases h5 : (s.data.toList == ([105, 102] : List UInt8)) = true
  · have g5 := (lit_list s [105, 102]).trans h5
    have e : isW s = true := by rw [HW.out, h5]; simp
    rw [e]
    clear e HW h5
    go_enter Try.func16, Try.ntmps16
    go_wp2
    go_ret
    exact ⟨rfl, rfl⟩
  replace h5 : (s.data.toList == ([105, 102] : List UInt8)) = false := by simpa using h5
  have g5 := (lit_list s [105, 102]).trans h5
  rw [h5, Bool.false_or] at HW
  by_cases h6 : (s.data.toList == ([116, 104, 101, 110] : List UInt8)) = true
  · have g6 := (lit_list s [116, 104, 101, 110]).trans h6
    have e : isW s = true := by rw [HW.out, h6]; simp
    rw [e]
    clear e HW h6
    go_enter Try.func16, Try.ntmps16
    go_wp2
    go_ret
    exact ⟨rfl, rfl⟩
  replace h6 : (s.data.toList == ([116, 104, 101, 110] : List UInt8)) = false := by simpa using h6
  have g6 := (lit_list s [116, 104, 101, 110]).trans h6
  rw [h6, Bool.false_or] at HW
  by_cases h7 : (s.data.toList == ([101, 108, 115, 101] : List UInt8)) = true
  · have g7 := (lit_list s [101, 108, 115, 101]).trans h7
    have e : isW s = true := by rw [HW.out, h7]; simp
    rw [e]
    clear e HW h7
    go_enter Try.func16, Try.ntmps16
    go_wp2
    go_ret
    exact ⟨rfl, rfl⟩
  replace h7 : (s.data.toList == ([101, 108, 115, 101] : List UInt8)) = false := by simpa using h7
  have g7 := (lit_list s [101, 108, 115, 101]).trans h7
  rw [h7, Bool.false_or] at HW
  by_cases h8 : (s.data.toList == ([97, 115, 115, 101, 114, 116] : List UInt8)) = true
  · have g8 := (lit_list s [97, 115, 115, 101, 114, 116]).trans h8
    have e : isW s = true := by rw [HW.out, h8]; simp
    rw [e]
    clear e HW h8
    go_enter Try.func16, Try.ntmps16
    go_wp2
    go_ret
    exact ⟨rfl, rfl⟩
  replace h8 : (s.data.toList == ([97, 115, 115, 101, 114, 116] : List UInt8)) = false := by simpa using h8
  have g8 := (lit_list s [97, 115, 115, 101, 114, 116]).trans h8
  rw [h8, Bool.false_or] at HW
  by_cases h9 : (s.data.toList == ([116, 114, 117, 101] : List UInt8)) = true
  · have g9 := (lit_list s [116, 114, 117, 101]).trans h9
    have e : isW s = true := by rw [HW.out, h9]; simp
    rw [e]
    clear e HW h9
    go_enter Try.func16, Try.ntmps16
    go_wp2
    go_ret
    exact ⟨rfl, rfl⟩
  replace h9 : (s.data.toList == ([116, 114, 117, 101] : List UInt8)) = false := by simpa using h9
  have g9 := (lit_list s [116, 114, 117, 101]).trans h9
  rw [h9, Bool.false_or] at HW
  by_cases h10 : (s.data.toList == ([102, 97, 108, 115, 101] : List UInt8)) = true
  · have g10 := (lit_list s [102, 97, 108, 115, 101]).trans h10
    have e : isW s = true := by rw [HW.out, h10]; simp
    rw [e]
    clear e HW h10
    go_enter Try.func16, Try.ntmps16
    go_wp2
    go_ret
    exact ⟨rfl, rfl⟩
  replace h10 : (s.data.toList == ([102, 97, 108, 115, 101] : List UInt8)) = false := by simpa using h10
  have g10 := (lit_list s [102, 97, 108, 115, 101]).trans h10
  rw [h10, Bool.false_or] at HW
  by_cases h11 : (s.data.toList == ([105, 110, 116] : List UInt8)) = true
  · have g11 := (lit_list s [105, 110, 116]).trans h11
    have e : isW s = true := by rw [HW.out, h11]; simp
    rw [e]
    clear e HW h11
    go_enter Try.func16, Try.ntmps16
    go_wp2
    go_ret
    exact ⟨rfl, rfl⟩
  replace h11 : (s.data.toList == ([105, 110, 116] : List UInt8)) = false := by simpa using h11
  have g11 := (lit_list s [105, 110, 116]).trans h11
  rw [h11, Bool.false_or] at HW
  by_cases h12 : (s.data.toList == ([98, 111, 111, 108] : List UInt8)) = true
  · have g12 := (lit_list s [98, 111, 111, 108]).trans h12
    have e : isW s = true := by rw [HW.out, h12]; simp
    rw [e]
    clear e HW h12
    go_enter Try.func16, Try.ntmps16
    go_wp2
    go_ret
    exact ⟨rfl, rfl⟩
  replace h12 : (s.data.toList == ([98, 111, 111, 108] : List UInt8)) = false := by simpa using h12
  have g12 := (lit_list s [98, 111, 111, 108]).trans h12
  rw [h12, Bool.false_or] at HW
  by_cases h13 : (s.data.toList == ([97, 114, 114] : List UInt8)) = true
  · have g13 := (lit_list s [97, 114, 114]).trans h13
    have e : isW s = true := by rw [HW.out, h13]; simp
    rw [e]
    clear e HW h13
    go_enter Try.func16, Try.ntmps16
    go_wp2
    go_ret
    exact ⟨rfl, rfl⟩
  replace h13 : (s.data.toList == ([97, 114, 114] : List UInt8)) = false := by simpa using h13
  have g13 := (lit_list s [97, 114, 114]).trans h13
  rw [h13, Bool.false_or] at HW
  by_cases h14 : (s.data.toList == ([103, 101, 116] : List UInt8)) = true
  · have g14 := (lit_list s [103, 101, 116]).trans h14
    have e : isW s = true := by rw [HW.out, h14]; simp
    rw [e]
    clear e HW h14
    go_enter Try.func16, Try.ntmps16
    go_wp2
    go_ret
    exact ⟨rfl, rfl⟩
  replace h14 : (s.data.toList == ([103, 101, 116] : List UInt8)) = false := by simpa using h14
  have g14 := (lit_list s [103, 101, 116]).trans h14
  rw [h14, Bool.false_or] at HW
  by_cases h15 : (s.data.toList == ([115, 101, 116] : List UInt8)) = true
  · have g15 := (lit_list s [115, 101, 116]).trans h15
    have e : isW s = true := by rw [HW.out, h15]; simp
    rw [e]
    clear e HW h15
    go_enter Try.func16, Try.ntmps16
    go_wp2
    go_ret
    exact ⟨rfl, rfl⟩
  replace h15 : (s.data.toList == ([115, 101, 116] : List UInt8)) = false := by simpa using h15
  have g15 := (lit_list s [115, 101, 116]).trans h15
  rw [h15, Bool.false_or] at HW
  by_cases h16 : (s.data.toList == ([108, 101, 110] : List UInt8)) = true
  · have g16 := (lit_list s [108, 101, 110]).trans h16
    have e : isW s = true := by rw [HW.out, h16]; simp
    rw [e]
    clear e HW h16
    go_enter Try.func16, Try.ntmps16
    go_wp2
    go_ret
    exact ⟨rfl, rfl⟩
  replace h16 : (s.data.toList == ([108, 101, 110] : List UInt8)) = false := by simpa using h16
  have g16 := (lit_list s [108, 101, 110]).trans h16
  rw [h16, Bool.false_or] at HW
  by_cases h17 : (s.data.toList == ([102, 105, 108, 108] : List UInt8)) = true
  · have g17 := (lit_list s [102, 105, 108, 108]).trans h17
    have e : isW s = true := by rw [HW.out, h17]; simp
    rw [e]
    clear e HW h17
    go_enter Try.func16, Try.ntmps16
    go_wp2
    go_ret
    exact ⟨rfl, rfl⟩
  replace h17 : (s.data.toList == ([102, 105, 108, 108] : List UInt8)) = false := by simpa using h17
  have g17 := (lit_list s [102, 105, 108, 108]).trans h17
  rw [h17, Bool.false_or] at HW
  by_cases h18 : (s.data.toList == ([110, 111, 116] : List UInt8)) = true
  · have g18 := (lit_list s [110, 111, 116]).trans h18
    have e : isW s = true := by rw [HW.out, h18]; simp
    rw [e]
    clear e HW h18
    go_enter Try.func16, Try.ntmps16
    go_wp2
    go_ret
    exact ⟨rfl, rfl⟩
  replace h18 : (s.data.toList == ([110, 111, 116] : List UInt8)) = false := by simpa using h18
  have g18 := (lit_list s [110, 111, 116]).trans h18
  rw [h18, Bool.false_or] at HW
  by_cases h19 : (s.data.toList == ([97, 110, 100] : List UInt8)) = true
  · have g19 := (lit_list s [97, 110, 100]).trans h19
    have e : isW s = true := by rw [HW.out, h19]; simp
    rw [e]
    clear e HW h19
    go_enter Try.func16, Try.ntmps16
    go_wp2
    go_ret
    exact ⟨rfl, rfl⟩
  replace h19 : (s.data.toList == ([97, 110, 100] : List UInt8)) = false := by simpa using h19
  have g19 := (lit_list s [97, 110, 100]).trans h19
  rw [h19, Bool.false_or] at HW
  by_cases h20 : (s.data.toList == ([111, 114] : List UInt8)) = true
  · have g20 := (lit_list s [111, 114]).trans h20
    have e : isW s = true := by rw [HW.out, h20]; simp
    rw [e]
    clear e HW h20
    go_enter Try.func16, Try.ntmps16
    go_wp2
    go_ret
    exact ⟨rfl, rfl⟩
  replace h20 : (s.data.toList == ([111, 114] : List UInt8)) = false := by simpa using h20
  have g20 := (lit_list s [111, 114]).trans h20
  rw [h20, Bool.false_or] at HW
  by_cases h21 : (s.data.toList == ([118] : List UInt8)) = true
  · have g21 := (lit_list s [118]).trans h21
    have e : isW s = true := by rw [HW.out, h21]; simp
    rw [e]
    clear e HW h21
    go_enter Try.func16, Try.ntmps16
    go_wp2
    go_ret
    exact ⟨rfl, rfl⟩
  replace h21 : (s.data.toList == ([118] : List UInt8)) = false := by simpa using h21
  have g21 := (lit_list s [118]).trans h21
  rw [h21, Bool.false_or] at HW
  have e : isW s = false := HW.out
  rw [e]
  clear e HW
  go_enter Try.func16, Try.ntmps16
  go_wp2
  go_ret
  exact ⟨rfl, rfl⟩

end Go.Proofs.Ytehflaenehehhaa
