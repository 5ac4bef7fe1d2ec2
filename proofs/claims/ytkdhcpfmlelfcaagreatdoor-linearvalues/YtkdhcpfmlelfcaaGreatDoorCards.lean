/-
  DERIVED. GIVEN WITH THE SEED: THE CARDS: each row of YtkdhcpfmlelfcaaGreatDoorRows.lean that lists a variable, with what it lists TIED to the program's text (the seventh form; the later family's looks); each row that meets fmt, with fmt's text TOLD by the authors' own Lean function (tested against real Go, not proved from fmt's source: count such statements apart). THE CARD IS WHAT COUNTS. Prove the row's statement (the work); the ties are given (YtkdhcpfmlelfcaaGreatDoorTie.lean); close each card by the builder's one call (the guide's Derived/Test/ToyasCard.lean, 'card_holds'). Laid BY PROGRAM, IN A SANDBOX (cutbox-door.mjs). By AI agents, Wed Nov 11 2026. No macro, syntax, notation, axiom, sorry.
-/
import Derived.Test.YtkdhcpfmlelfcaaGreatDoorRows
import GoSem.ClaimSeven
namespace Go.Proofs.YtkdhcpfmlelfcaaGreatDoor
namespace Rows

/-- THE TIED CARD OF 'whetstonelaw11.LinearNorms'. -/
def linearNormsCard : Claim7 := { stood := { row := linearNormsRow, standIns := [], harness := (true, "bdaf34c1504dd300f6dc80302d4389a4ccae9727119c400d4d3316b949134117"), looks := false }, kinds := [], alts := [], laidByText := true, laidKinds := [.data, .data, .data], laidTests := true, laidLooks := .later }
def LinearNormsCardSaid : Prop := Claim7.holds Tryz.pinned (.plain (OpenSpec.ofChange linearNormsSpec)) linearNormsCard

/-- THE TIED CARD OF 'whetstonelaw11.LinearSums'. -/
def linearSumsCard : Claim7 := { stood := { row := linearSumsRow, standIns := [], harness := (true, "bdaf34c1504dd300f6dc80302d4389a4ccae9727119c400d4d3316b949134117"), looks := false }, kinds := [], alts := [], laidByText := true, laidKinds := [.data, .data, .data], laidTests := true, laidLooks := .later }
def LinearSumsCardSaid : Prop := Claim7.holds Tryz.pinned (.plain (OpenSpec.ofChange linearSumsSpec)) linearSumsCard

/-- THE TIED CARD OF 'whetstonelaw11.LinearEvals'. -/
def linearEvalsCard : Claim7 := { stood := { row := linearEvalsRow, standIns := [], harness := (true, "bdaf34c1504dd300f6dc80302d4389a4ccae9727119c400d4d3316b949134117"), looks := false }, kinds := [], alts := [], laidByText := true, laidKinds := [.data, .data, .data], laidTests := true, laidLooks := .later }
def LinearEvalsCardSaid : Prop := Claim7.holds Tryz.pinned (.plain (OpenSpec.ofChange linearEvalsSpec)) linearEvalsCard

/-- THE TIED CARD OF 'whetstonelaw11.LinearTexts'. -/
def linearTextsCard : Claim7 := { stood := { row := linearTextsRow, standIns := [], harness := (true, "bdaf34c1504dd300f6dc80302d4389a4ccae9727119c400d4d3316b949134117"), looks := false }, kinds := [], alts := [], laidByText := true, laidKinds := [.data, .data, .data], laidTests := true, laidLooks := .later }
def LinearTextsCardSaid : Prop := Claim7.holds Tryz.pinned (.plain (OpenSpec.ofChange linearTextsSpec)) linearTextsCard

/-- THE TIED CARD OF 'whetstonelaw11.LinearValues'. -/
def linearValuesCard : Claim7 := { stood := { row := linearValuesRow, standIns := [], harness := (true, "bdaf34c1504dd300f6dc80302d4389a4ccae9727119c400d4d3316b949134117"), looks := false }, kinds := [], alts := [], laidByText := true, laidKinds := [.data, .data, .data], laidTests := true, laidLooks := .later }
def LinearValuesCardSaid : Prop := Claim7.holds Tryz.pinned (.plain (OpenSpec.ofChange linearValuesSpec)) linearValuesCard

/-- THE SECOND FORM's CARD OF 'whetstonelaw11.LinearNorms'. -/
def linearNormsUptoCard : Claim7 := { stood := { row := linearNormsUptoRow, standIns := [], harness := (true, "bdaf34c1504dd300f6dc80302d4389a4ccae9727119c400d4d3316b949134117"), looks := false }, kinds := [], alts := [], laidByText := true, laidKinds := [.data, .data, .data], laidTests := true, laidLooks := .later }
def LinearNormsUptoCardSaid : Prop := Claim7.holds Tryz.pinned (.plain (OpenSpec.upto linearNormsSpec)) linearNormsUptoCard

/-- THE SECOND FORM's CARD OF 'whetstonelaw11.LinearSums'. -/
def linearSumsUptoCard : Claim7 := { stood := { row := linearSumsUptoRow, standIns := [], harness := (true, "bdaf34c1504dd300f6dc80302d4389a4ccae9727119c400d4d3316b949134117"), looks := false }, kinds := [], alts := [], laidByText := true, laidKinds := [.data, .data, .data], laidTests := true, laidLooks := .later }
def LinearSumsUptoCardSaid : Prop := Claim7.holds Tryz.pinned (.plain (OpenSpec.upto linearSumsSpec)) linearSumsUptoCard

/-- THE SECOND FORM's CARD OF 'whetstonelaw11.LinearEvals'. -/
def linearEvalsUptoCard : Claim7 := { stood := { row := linearEvalsUptoRow, standIns := [], harness := (true, "bdaf34c1504dd300f6dc80302d4389a4ccae9727119c400d4d3316b949134117"), looks := false }, kinds := [], alts := [], laidByText := true, laidKinds := [.data, .data, .data], laidTests := true, laidLooks := .later }
def LinearEvalsUptoCardSaid : Prop := Claim7.holds Tryz.pinned (.plain (OpenSpec.upto linearEvalsSpec)) linearEvalsUptoCard

/-- THE SECOND FORM's CARD OF 'whetstonelaw11.LinearTexts'. -/
def linearTextsUptoCard : Claim7 := { stood := { row := linearTextsUptoRow, standIns := [], harness := (true, "bdaf34c1504dd300f6dc80302d4389a4ccae9727119c400d4d3316b949134117"), looks := false }, kinds := [], alts := [], laidByText := true, laidKinds := [.data, .data, .data], laidTests := true, laidLooks := .later }
def LinearTextsUptoCardSaid : Prop := Claim7.holds Tryz.pinned (.plain (OpenSpec.upto linearTextsSpec)) linearTextsUptoCard

/-- THE SECOND FORM's CARD OF 'whetstonelaw11.LinearValues'. -/
def linearValuesUptoCard : Claim7 := { stood := { row := linearValuesUptoRow, standIns := [], harness := (true, "bdaf34c1504dd300f6dc80302d4389a4ccae9727119c400d4d3316b949134117"), looks := false }, kinds := [], alts := [], laidByText := true, laidKinds := [.data, .data, .data], laidTests := true, laidLooks := .later }
def LinearValuesUptoCardSaid : Prop := Claim7.holds Tryz.pinned (.plain (OpenSpec.upto linearValuesSpec)) linearValuesUptoCard
end Rows
end Go.Proofs.YtkdhcpfmlelfcaaGreatDoor
