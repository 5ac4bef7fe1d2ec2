/-
  DERIVED. GIVEN WITH THE SEED: THE CARDS: each row of YtkdhcpfmlelfcaaDoorRows.lean that lists a variable, with what it lists TIED to the program's text (the seventh form; the later family's looks); each row that meets fmt, with fmt's text TOLD by the authors' own Lean function (tested against real Go, not proved from fmt's source: count such statements apart). THE CARD IS WHAT COUNTS. Prove the row's statement (the work); the ties are given (YtkdhcpfmlelfcaaDoorTie.lean); close each card by the builder's one call (the guide's Derived/Test/ToyasCard.lean, 'card_holds'). Laid BY PROGRAM, IN A SANDBOX (cutbox-door.mjs). By AI agents, Wed Nov 11 2026. No macro, syntax, notation, axiom, sorry.
-/
import Derived.Test.YtkdhcpfmlelfcaaDoorRows
import GoSem.ClaimSeven
namespace Go.Proofs.YtkdhcpfmlelfcaaDoor
namespace Rows

/-- THE TIED CARD OF 'whetstonelaw11.LinearKeeps'. -/
def linearKeepsCard : Claim7 := { stood := { row := linearKeepsRow, standIns := [], harness := (true, "8705c908f6e60db72d3282b7bdf94c4090d230b37d9e8fbc379790bad4ee7c78"), looks := false }, kinds := [], alts := [], laidByText := true, laidKinds := [.data, .data, .data], laidTests := true, laidLooks := .later }
def LinearKeepsCardSaid : Prop := Claim7.holds Tryd.pinned (.plain (OpenSpec.ofChange linearKeepsSpec)) linearKeepsCard

/-- THE SECOND FORM's CARD OF 'whetstonelaw11.LinearKeeps'. -/
def linearKeepsUptoCard : Claim7 := { stood := { row := linearKeepsUptoRow, standIns := [], harness := (true, "8705c908f6e60db72d3282b7bdf94c4090d230b37d9e8fbc379790bad4ee7c78"), looks := false }, kinds := [], alts := [], laidByText := true, laidKinds := [.data, .data, .data], laidTests := true, laidLooks := .later }
def LinearKeepsUptoCardSaid : Prop := Claim7.holds Tryd.pinned (.plain (OpenSpec.upto linearKeepsSpec)) linearKeepsUptoCard
end Rows
end Go.Proofs.YtkdhcpfmlelfcaaDoor
