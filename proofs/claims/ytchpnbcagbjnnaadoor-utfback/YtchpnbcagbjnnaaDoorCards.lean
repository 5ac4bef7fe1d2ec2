/-
  DERIVED. GIVEN WITH THE SEED: THE CARDS: each row of YtchpnbcagbjnnaaDoorRows.lean that lists a variable, with what it lists TIED to the program's text (the seventh form; the later family's looks); each row that meets fmt, with fmt's text TOLD by the authors' own Lean function (tested against real Go, not proved from fmt's source: count such statements apart). THE CARD IS WHAT COUNTS. Prove the row's statement (the work); the ties are given (YtchpnbcagbjnnaaDoorTie.lean); close each card by the builder's one call (the guide's Derived/Test/ToyasCard.lean, 'card_holds'). Laid BY PROGRAM, IN A SANDBOX (cutbox-door.mjs). By AI agents, Wed Nov 11 2026. No macro, syntax, notation, axiom, sorry.
-/
import Derived.Test.YtchpnbcagbjnnaaDoorRows
import GoSem.ClaimSeven
namespace Go.Proofs.YtchpnbcagbjnnaaDoor
namespace Rows

/-- THE TIED CARD OF 'whetstonelaw03.UtfValid'. -/
def utfValidCard : Claim7 := { stood := { row := utfValidRow, standIns := [], harness := (true, "57387bcacdf7e05fd4441d2654ae5bfd4a2d7257856bef32ba394f82777955c5"), looks := false }, kinds := [], alts := [], laidByText := true, laidKinds := [.data, .pinned], laidTests := true, laidLooks := .later }
def UtfValidCardSaid : Prop := Claim7.holds Tryd.pinned (.plain (OpenSpec.ofChange utfValidSpec)) utfValidCard

/-- THE TIED CARD OF 'whetstonelaw03.UtfLetters'. -/
def utfLettersCard : Claim7 := { stood := { row := utfLettersRow, standIns := [], harness := (true, "57387bcacdf7e05fd4441d2654ae5bfd4a2d7257856bef32ba394f82777955c5"), looks := false }, kinds := [], alts := [], laidByText := true, laidKinds := [.data, .pinned], laidTests := true, laidLooks := .later }
def UtfLettersCardSaid : Prop := Claim7.holds Tryd.pinned (.plain (OpenSpec.ofChange utfLettersSpec)) utfLettersCard

/-- THE TIED CARD OF 'whetstonelaw03.UtfEncodes'. -/
def utfEncodesCard : Claim7 := { stood := { row := utfEncodesRow, standIns := [], harness := (true, "57387bcacdf7e05fd4441d2654ae5bfd4a2d7257856bef32ba394f82777955c5"), looks := false }, kinds := [], alts := [], laidByText := true, laidKinds := [.data, .pinned], laidTests := true, laidLooks := .later }
def UtfEncodesCardSaid : Prop := Claim7.holds Tryd.pinned (.plain (OpenSpec.ofChange utfEncodesSpec)) utfEncodesCard

/-- THE TIED CARD OF 'whetstonelaw03.UtfLines'. -/
def utfLinesCard : Claim7 := { stood := { row := utfLinesRow, standIns := [], harness := (true, "57387bcacdf7e05fd4441d2654ae5bfd4a2d7257856bef32ba394f82777955c5"), looks := false }, kinds := [], alts := [], laidByText := true, laidKinds := [.data, .pinned], laidTests := true, laidLooks := .later }
def UtfLinesCardSaid : Prop := Claim7.holds Tryd.pinned (.plain (OpenSpec.ofChange utfLinesSpec)) utfLinesCard

/-- THE TIED CARD OF 'whetstonelaw03.UtfOffsets'. -/
def utfOffsetsCard : Claim7 := { stood := { row := utfOffsetsRow, standIns := [], harness := (true, "57387bcacdf7e05fd4441d2654ae5bfd4a2d7257856bef32ba394f82777955c5"), looks := false }, kinds := [], alts := [], laidByText := true, laidKinds := [.data, .pinned], laidTests := true, laidLooks := .later }
def UtfOffsetsCardSaid : Prop := Claim7.holds Tryd.pinned (.plain (OpenSpec.ofChange utfOffsetsSpec)) utfOffsetsCard

/-- THE TIED CARD OF 'whetstonelaw03.UtfBack'. -/
def utfBackCard : Claim7 := { stood := { row := utfBackRow, standIns := [], harness := (true, "57387bcacdf7e05fd4441d2654ae5bfd4a2d7257856bef32ba394f82777955c5"), looks := false }, kinds := [], alts := [], laidByText := true, laidKinds := [.data, .pinned], laidTests := true, laidLooks := .later }
def UtfBackCardSaid : Prop := Claim7.holds Tryd.pinned (.plain (OpenSpec.ofChange utfBackSpec)) utfBackCard

/-- THE SECOND FORM's CARD OF 'whetstonelaw03.UtfValid'. -/
def utfValidUptoCard : Claim7 := { stood := { row := utfValidUptoRow, standIns := [], harness := (true, "57387bcacdf7e05fd4441d2654ae5bfd4a2d7257856bef32ba394f82777955c5"), looks := false }, kinds := [], alts := [], laidByText := true, laidKinds := [.data, .pinned], laidTests := true, laidLooks := .later }
def UtfValidUptoCardSaid : Prop := Claim7.holds Tryd.pinned (.plain (OpenSpec.upto utfValidSpec)) utfValidUptoCard

/-- THE SECOND FORM's CARD OF 'whetstonelaw03.UtfLetters'. -/
def utfLettersUptoCard : Claim7 := { stood := { row := utfLettersUptoRow, standIns := [], harness := (true, "57387bcacdf7e05fd4441d2654ae5bfd4a2d7257856bef32ba394f82777955c5"), looks := false }, kinds := [], alts := [], laidByText := true, laidKinds := [.data, .pinned], laidTests := true, laidLooks := .later }
def UtfLettersUptoCardSaid : Prop := Claim7.holds Tryd.pinned (.plain (OpenSpec.upto utfLettersSpec)) utfLettersUptoCard

/-- THE SECOND FORM's CARD OF 'whetstonelaw03.UtfEncodes'. -/
def utfEncodesUptoCard : Claim7 := { stood := { row := utfEncodesUptoRow, standIns := [], harness := (true, "57387bcacdf7e05fd4441d2654ae5bfd4a2d7257856bef32ba394f82777955c5"), looks := false }, kinds := [], alts := [], laidByText := true, laidKinds := [.data, .pinned], laidTests := true, laidLooks := .later }
def UtfEncodesUptoCardSaid : Prop := Claim7.holds Tryd.pinned (.plain (OpenSpec.upto utfEncodesSpec)) utfEncodesUptoCard

/-- THE SECOND FORM's CARD OF 'whetstonelaw03.UtfLines'. -/
def utfLinesUptoCard : Claim7 := { stood := { row := utfLinesUptoRow, standIns := [], harness := (true, "57387bcacdf7e05fd4441d2654ae5bfd4a2d7257856bef32ba394f82777955c5"), looks := false }, kinds := [], alts := [], laidByText := true, laidKinds := [.data, .pinned], laidTests := true, laidLooks := .later }
def UtfLinesUptoCardSaid : Prop := Claim7.holds Tryd.pinned (.plain (OpenSpec.upto utfLinesSpec)) utfLinesUptoCard

/-- THE SECOND FORM's CARD OF 'whetstonelaw03.UtfOffsets'. -/
def utfOffsetsUptoCard : Claim7 := { stood := { row := utfOffsetsUptoRow, standIns := [], harness := (true, "57387bcacdf7e05fd4441d2654ae5bfd4a2d7257856bef32ba394f82777955c5"), looks := false }, kinds := [], alts := [], laidByText := true, laidKinds := [.data, .pinned], laidTests := true, laidLooks := .later }
def UtfOffsetsUptoCardSaid : Prop := Claim7.holds Tryd.pinned (.plain (OpenSpec.upto utfOffsetsSpec)) utfOffsetsUptoCard

/-- THE SECOND FORM's CARD OF 'whetstonelaw03.UtfBack'. -/
def utfBackUptoCard : Claim7 := { stood := { row := utfBackUptoRow, standIns := [], harness := (true, "57387bcacdf7e05fd4441d2654ae5bfd4a2d7257856bef32ba394f82777955c5"), looks := false }, kinds := [], alts := [], laidByText := true, laidKinds := [.data, .pinned], laidTests := true, laidLooks := .later }
def UtfBackUptoCardSaid : Prop := Claim7.holds Tryd.pinned (.plain (OpenSpec.upto utfBackSpec)) utfBackUptoCard
end Rows
end Go.Proofs.YtchpnbcagbjnnaaDoor
