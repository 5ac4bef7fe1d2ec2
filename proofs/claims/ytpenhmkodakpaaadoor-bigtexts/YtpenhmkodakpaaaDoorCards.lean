/-
  DERIVED. GIVEN WITH THE SEED: THE CARDS: each row of YtpenhmkodakpaaaDoorRows.lean that lists a variable, with what it lists TIED to the program's text (the seventh form; the later family's looks); each row that meets fmt, with fmt's text TOLD by the authors' own Lean function (tested against real Go, not proved from fmt's source: count such statements apart). THE CARD IS WHAT COUNTS. Prove the row's statement (the work); the ties are given (YtpenhmkodakpaaaDoorTie.lean); close each card by the builder's one call (the guide's Derived/Test/ToyasCard.lean, 'card_holds'). Laid BY PROGRAM, IN A SANDBOX (cutbox-door.mjs). By AI agents, Wed Nov 11 2026. No macro, syntax, notation, axiom, sorry.
-/
import Derived.Test.YtpenhmkodakpaaaDoorRows
import GoSem.ClaimSeven
namespace Go.Proofs.YtpenhmkodakpaaaDoor
namespace Rows

/-- THE TIED CARD OF 'whetstonetop.TopNumbers'. -/
def topNumbersCard : Claim7 := { stood := { row := topNumbersRow, standIns := [], harness := (true, "78f7f002c85a6c3f1b02fe8539a6fd9dcc28898e3c5669797486799d3828599f"), looks := false }, kinds := [], alts := [], laidByText := true, laidKinds := [.data, .data, .data], laidTests := true, laidLooks := .later }
def TopNumbersCardSaid : Prop := Claim7.holds Tryd.pinned (.plain (OpenSpec.ofChange topNumbersSpec)) topNumbersCard

/-- THE TIED CARD OF 'whetstonelaw02.BigSums'. -/
def bigSumsCard : Claim7 := { stood := { row := bigSumsRow, standIns := [], harness := (true, "78f7f002c85a6c3f1b02fe8539a6fd9dcc28898e3c5669797486799d3828599f"), looks := false }, kinds := [], alts := [], laidByText := true, laidKinds := [.data, .data, .data], laidTests := true, laidLooks := .later }
def BigSumsCardSaid : Prop := Claim7.holds Tryd.pinned (.plain (OpenSpec.ofChange bigSumsSpec)) bigSumsCard

/-- THE TIED CARD OF 'whetstonelaw02.BigProducts'. -/
def bigProductsCard : Claim7 := { stood := { row := bigProductsRow, standIns := [], harness := (true, "78f7f002c85a6c3f1b02fe8539a6fd9dcc28898e3c5669797486799d3828599f"), looks := false }, kinds := [], alts := [], laidByText := true, laidKinds := [.data, .data, .data], laidTests := true, laidLooks := .later }
def BigProductsCardSaid : Prop := Claim7.holds Tryd.pinned (.plain (OpenSpec.ofChange bigProductsSpec)) bigProductsCard

/-- THE TIED CARD OF 'whetstonelaw02.BigQuotients'. -/
def bigQuotientsCard : Claim7 := { stood := { row := bigQuotientsRow, standIns := [], harness := (true, "78f7f002c85a6c3f1b02fe8539a6fd9dcc28898e3c5669797486799d3828599f"), looks := false }, kinds := [], alts := [], laidByText := true, laidKinds := [.data, .data, .data], laidTests := true, laidLooks := .later }
def BigQuotientsCardSaid : Prop := Claim7.holds Tryd.pinned (.plain (OpenSpec.ofChange bigQuotientsSpec)) bigQuotientsCard

/-- THE TIED CARD OF 'whetstonelaw02.BigChoices'. -/
def bigChoicesCard : Claim7 := { stood := { row := bigChoicesRow, standIns := [], harness := (true, "78f7f002c85a6c3f1b02fe8539a6fd9dcc28898e3c5669797486799d3828599f"), looks := false }, kinds := [], alts := [], laidByText := true, laidKinds := [.data, .data, .data], laidTests := true, laidLooks := .later }
def BigChoicesCardSaid : Prop := Claim7.holds Tryd.pinned (.plain (OpenSpec.ofChange bigChoicesSpec)) bigChoicesCard

/-- THE TIED CARD OF 'whetstonelaw02.BigTexts'. -/
def bigTextsCard : Claim7 := { stood := { row := bigTextsRow, standIns := [], harness := (true, "78f7f002c85a6c3f1b02fe8539a6fd9dcc28898e3c5669797486799d3828599f"), looks := false }, kinds := [], alts := [], laidByText := true, laidKinds := [.data, .data, .data], laidTests := true, laidLooks := .later }
def BigTextsCardSaid : Prop := Claim7.holds Tryd.pinned (.plain (OpenSpec.ofChange bigTextsSpec)) bigTextsCard

/-- THE SECOND FORM's CARD OF 'whetstonetop.TopNumbers'. -/
def topNumbersUptoCard : Claim7 := { stood := { row := topNumbersUptoRow, standIns := [], harness := (true, "78f7f002c85a6c3f1b02fe8539a6fd9dcc28898e3c5669797486799d3828599f"), looks := false }, kinds := [], alts := [], laidByText := true, laidKinds := [.data, .data, .data], laidTests := true, laidLooks := .later }
def TopNumbersUptoCardSaid : Prop := Claim7.holds Tryd.pinned (.plain (OpenSpec.upto topNumbersSpec)) topNumbersUptoCard

/-- THE SECOND FORM's CARD OF 'whetstonelaw02.BigSums'. -/
def bigSumsUptoCard : Claim7 := { stood := { row := bigSumsUptoRow, standIns := [], harness := (true, "78f7f002c85a6c3f1b02fe8539a6fd9dcc28898e3c5669797486799d3828599f"), looks := false }, kinds := [], alts := [], laidByText := true, laidKinds := [.data, .data, .data], laidTests := true, laidLooks := .later }
def BigSumsUptoCardSaid : Prop := Claim7.holds Tryd.pinned (.plain (OpenSpec.upto bigSumsSpec)) bigSumsUptoCard

/-- THE SECOND FORM's CARD OF 'whetstonelaw02.BigProducts'. -/
def bigProductsUptoCard : Claim7 := { stood := { row := bigProductsUptoRow, standIns := [], harness := (true, "78f7f002c85a6c3f1b02fe8539a6fd9dcc28898e3c5669797486799d3828599f"), looks := false }, kinds := [], alts := [], laidByText := true, laidKinds := [.data, .data, .data], laidTests := true, laidLooks := .later }
def BigProductsUptoCardSaid : Prop := Claim7.holds Tryd.pinned (.plain (OpenSpec.upto bigProductsSpec)) bigProductsUptoCard

/-- THE SECOND FORM's CARD OF 'whetstonelaw02.BigQuotients'. -/
def bigQuotientsUptoCard : Claim7 := { stood := { row := bigQuotientsUptoRow, standIns := [], harness := (true, "78f7f002c85a6c3f1b02fe8539a6fd9dcc28898e3c5669797486799d3828599f"), looks := false }, kinds := [], alts := [], laidByText := true, laidKinds := [.data, .data, .data], laidTests := true, laidLooks := .later }
def BigQuotientsUptoCardSaid : Prop := Claim7.holds Tryd.pinned (.plain (OpenSpec.upto bigQuotientsSpec)) bigQuotientsUptoCard

/-- THE SECOND FORM's CARD OF 'whetstonelaw02.BigChoices'. -/
def bigChoicesUptoCard : Claim7 := { stood := { row := bigChoicesUptoRow, standIns := [], harness := (true, "78f7f002c85a6c3f1b02fe8539a6fd9dcc28898e3c5669797486799d3828599f"), looks := false }, kinds := [], alts := [], laidByText := true, laidKinds := [.data, .data, .data], laidTests := true, laidLooks := .later }
def BigChoicesUptoCardSaid : Prop := Claim7.holds Tryd.pinned (.plain (OpenSpec.upto bigChoicesSpec)) bigChoicesUptoCard

/-- THE SECOND FORM's CARD OF 'whetstonelaw02.BigTexts'. -/
def bigTextsUptoCard : Claim7 := { stood := { row := bigTextsUptoRow, standIns := [], harness := (true, "78f7f002c85a6c3f1b02fe8539a6fd9dcc28898e3c5669797486799d3828599f"), looks := false }, kinds := [], alts := [], laidByText := true, laidKinds := [.data, .data, .data], laidTests := true, laidLooks := .later }
def BigTextsUptoCardSaid : Prop := Claim7.holds Tryd.pinned (.plain (OpenSpec.upto bigTextsSpec)) bigTextsUptoCard
end Rows
end Go.Proofs.YtpenhmkodakpaaaDoor
