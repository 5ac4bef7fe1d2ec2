/-
  DERIVED. GIVEN WITH THE SEED: THE CARDS: each row of YthhpfdjcggfhaaaDoorRows.lean that lists a variable, with what it lists TIED to the program's text (the seventh form; the later family's looks); each row that meets fmt, with fmt's text TOLD by the authors' own Lean function (tested against real Go, not proved from fmt's source: count such statements apart). THE CARD IS WHAT COUNTS. Prove the row's statement (the work); the ties are given (YthhpfdjcggfhaaaDoorTie.lean); close each card by the builder's one call (the guide's Derived/Test/ToyasCard.lean, 'card_holds'). Laid BY PROGRAM, IN A SANDBOX (cutbox-door.mjs). By AI agents, Wed Nov 11 2026. No macro, syntax, notation, axiom, sorry.
-/
import Derived.Test.YthhpfdjcggfhaaaDoorRows
import GoSem.ClaimSeven
namespace Go.Proofs.YthhpfdjcggfhaaaDoor
namespace Rows

/-- THE TIED CARD OF 'whetstonelaw07.TextApplies'. -/
def textAppliesCard : Claim7 := { stood := { row := textAppliesRow, standIns := [], harness := (true, "73147f54e4f866b369ade195d97429e30101861b70edbae664c2d3307a603e38"), looks := false }, kinds := [], alts := [], laidByText := true, laidKinds := [.data, .pinned], laidTests := true, laidLooks := .later }
def TextAppliesCardSaid : Prop := Claim7.holds Tryd.pinned (.plain (OpenSpec.ofChange textAppliesSpec)) textAppliesCard

/-- THE TIED CARD OF 'whetstonelaw07.TextPlaces'. -/
def textPlacesCard : Claim7 := { stood := { row := textPlacesRow, standIns := [], harness := (true, "73147f54e4f866b369ade195d97429e30101861b70edbae664c2d3307a603e38"), looks := false }, kinds := [], alts := [], laidByText := true, laidKinds := [.data, .pinned], laidTests := true, laidLooks := .later }
def TextPlacesCardSaid : Prop := Claim7.holds Tryd.pinned (.plain (OpenSpec.ofChange textPlacesSpec)) textPlacesCard

/-- THE TIED CARD OF 'whetstonelaw07.TextMoves'. -/
def textMovesCard : Claim7 := { stood := { row := textMovesRow, standIns := [], harness := (true, "73147f54e4f866b369ade195d97429e30101861b70edbae664c2d3307a603e38"), looks := false }, kinds := [], alts := [], laidByText := true, laidKinds := [.data, .pinned], laidTests := true, laidLooks := .later }
def TextMovesCardSaid : Prop := Claim7.holds Tryd.pinned (.plain (OpenSpec.ofChange textMovesSpec)) textMovesCard

/-- THE TIED CARD OF 'whetstonelaw07.TextKeeps'. -/
def textKeepsCard : Claim7 := { stood := { row := textKeepsRow, standIns := [], harness := (true, "73147f54e4f866b369ade195d97429e30101861b70edbae664c2d3307a603e38"), looks := false }, kinds := [], alts := [], laidByText := true, laidKinds := [.data, .pinned], laidTests := true, laidLooks := .later }
def TextKeepsCardSaid : Prop := Claim7.holds Tryd.pinned (.plain (OpenSpec.ofChange textKeepsSpec)) textKeepsCard

/-- THE TIED CARD OF 'whetstonetop.TopEdits'. -/
def topEditsCard : Claim7 := { stood := { row := topEditsRow, standIns := [], harness := (true, "73147f54e4f866b369ade195d97429e30101861b70edbae664c2d3307a603e38"), looks := false }, kinds := [], alts := [], laidByText := true, laidKinds := [.data, .pinned], laidTests := true, laidLooks := .later }
def TopEditsCardSaid : Prop := Claim7.holds Tryd.pinned (.plain (OpenSpec.ofChange topEditsSpec)) topEditsCard

/-- THE SECOND FORM's CARD OF 'whetstonelaw07.TextApplies'. -/
def textAppliesUptoCard : Claim7 := { stood := { row := textAppliesUptoRow, standIns := [], harness := (true, "73147f54e4f866b369ade195d97429e30101861b70edbae664c2d3307a603e38"), looks := false }, kinds := [], alts := [], laidByText := true, laidKinds := [.data, .pinned], laidTests := true, laidLooks := .later }
def TextAppliesUptoCardSaid : Prop := Claim7.holds Tryd.pinned (.plain (OpenSpec.upto textAppliesSpec)) textAppliesUptoCard

/-- THE SECOND FORM's CARD OF 'whetstonelaw07.TextPlaces'. -/
def textPlacesUptoCard : Claim7 := { stood := { row := textPlacesUptoRow, standIns := [], harness := (true, "73147f54e4f866b369ade195d97429e30101861b70edbae664c2d3307a603e38"), looks := false }, kinds := [], alts := [], laidByText := true, laidKinds := [.data, .pinned], laidTests := true, laidLooks := .later }
def TextPlacesUptoCardSaid : Prop := Claim7.holds Tryd.pinned (.plain (OpenSpec.upto textPlacesSpec)) textPlacesUptoCard

/-- THE SECOND FORM's CARD OF 'whetstonelaw07.TextMoves'. -/
def textMovesUptoCard : Claim7 := { stood := { row := textMovesUptoRow, standIns := [], harness := (true, "73147f54e4f866b369ade195d97429e30101861b70edbae664c2d3307a603e38"), looks := false }, kinds := [], alts := [], laidByText := true, laidKinds := [.data, .pinned], laidTests := true, laidLooks := .later }
def TextMovesUptoCardSaid : Prop := Claim7.holds Tryd.pinned (.plain (OpenSpec.upto textMovesSpec)) textMovesUptoCard

/-- THE SECOND FORM's CARD OF 'whetstonelaw07.TextKeeps'. -/
def textKeepsUptoCard : Claim7 := { stood := { row := textKeepsUptoRow, standIns := [], harness := (true, "73147f54e4f866b369ade195d97429e30101861b70edbae664c2d3307a603e38"), looks := false }, kinds := [], alts := [], laidByText := true, laidKinds := [.data, .pinned], laidTests := true, laidLooks := .later }
def TextKeepsUptoCardSaid : Prop := Claim7.holds Tryd.pinned (.plain (OpenSpec.upto textKeepsSpec)) textKeepsUptoCard

/-- THE SECOND FORM's CARD OF 'whetstonetop.TopEdits'. -/
def topEditsUptoCard : Claim7 := { stood := { row := topEditsUptoRow, standIns := [], harness := (true, "73147f54e4f866b369ade195d97429e30101861b70edbae664c2d3307a603e38"), looks := false }, kinds := [], alts := [], laidByText := true, laidKinds := [.data, .pinned], laidTests := true, laidLooks := .later }
def TopEditsUptoCardSaid : Prop := Claim7.holds Tryd.pinned (.plain (OpenSpec.upto topEditsSpec)) topEditsUptoCard
end Rows
end Go.Proofs.YthhpfdjcggfhaaaDoor
