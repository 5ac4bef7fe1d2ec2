/-
  DERIVED. GIVEN WITH THE SEED: THE CARDS: each row of YtdhdmpolbamaoabDoorRows.lean that lists a variable, with what it lists TIED to the program's text (the seventh form; the later family's looks); each row that meets fmt, with fmt's text TOLD by the authors' own Lean function (tested against real Go, not proved from fmt's source: count such statements apart). THE CARD IS WHAT COUNTS. Prove the row's statement (the work); the ties are given (YtdhdmpolbamaoabDoorTie.lean); close each card by the builder's one call (the guide's Derived/Test/ToyasCard.lean, 'card_holds'). Laid BY PROGRAM, IN A SANDBOX (cutbox-door.mjs). By AI agents, Wed Nov 11 2026. No macro, syntax, notation, axiom, sorry.
-/
import Derived.Test.YtdhdmpolbamaoabDoorRows
import GoSem.ClaimSeven
namespace Go.Proofs.YtdhdmpolbamaoabDoor
namespace Rows

/-- THE TIED CARD OF 'whetstonelaw02.BigRings'. -/
def bigRingsCard : Claim7 := { stood := { row := bigRingsRow, standIns := [], harness := (true, "be38dfa8e9cd549c540c924cac23df0da3b44470a2e564f615728a18587c731c"), looks := false }, kinds := [], alts := [], laidByText := true, laidKinds := [.data, .data, .data], laidTests := true, laidLooks := .later }
def BigRingsCardSaid : Prop := Claim7.holds Tryd.pinned (.plain (OpenSpec.ofChange bigRingsSpec)) bigRingsCard

/-- THE TIED CARD OF 'whetstonelaw02.BigRests'. -/
def bigRestsCard : Claim7 := { stood := { row := bigRestsRow, standIns := [], harness := (true, "be38dfa8e9cd549c540c924cac23df0da3b44470a2e564f615728a18587c731c"), looks := false }, kinds := [], alts := [], laidByText := true, laidKinds := [.data, .data, .data], laidTests := true, laidLooks := .later }
def BigRestsCardSaid : Prop := Claim7.holds Tryd.pinned (.plain (OpenSpec.ofChange bigRestsSpec)) bigRestsCard

/-- THE TIED CARD OF 'whetstonelaw02.BigGcds'. -/
def bigGcdsCard : Claim7 := { stood := { row := bigGcdsRow, standIns := [], harness := (true, "be38dfa8e9cd549c540c924cac23df0da3b44470a2e564f615728a18587c731c"), looks := false }, kinds := [], alts := [], laidByText := true, laidKinds := [.data, .data, .data], laidTests := true, laidLooks := .later }
def BigGcdsCardSaid : Prop := Claim7.holds Tryd.pinned (.plain (OpenSpec.ofChange bigGcdsSpec)) bigGcdsCard

/-- THE TIED CARD OF 'whetstonetop.TopNumbers'. -/
def topNumbersCard : Claim7 := { stood := { row := topNumbersRow, standIns := [], harness := (true, "be38dfa8e9cd549c540c924cac23df0da3b44470a2e564f615728a18587c731c"), looks := false }, kinds := [], alts := [], laidByText := true, laidKinds := [.data, .data, .data], laidTests := true, laidLooks := .later }
def TopNumbersCardSaid : Prop := Claim7.holds Tryd.pinned (.plain (OpenSpec.ofChange topNumbersSpec)) topNumbersCard

/-- THE SECOND FORM's CARD OF 'whetstonelaw02.BigRings'. -/
def bigRingsUptoCard : Claim7 := { stood := { row := bigRingsUptoRow, standIns := [], harness := (true, "be38dfa8e9cd549c540c924cac23df0da3b44470a2e564f615728a18587c731c"), looks := false }, kinds := [], alts := [], laidByText := true, laidKinds := [.data, .data, .data], laidTests := true, laidLooks := .later }
def BigRingsUptoCardSaid : Prop := Claim7.holds Tryd.pinned (.plain (OpenSpec.upto bigRingsSpec)) bigRingsUptoCard

/-- THE SECOND FORM's CARD OF 'whetstonelaw02.BigRests'. -/
def bigRestsUptoCard : Claim7 := { stood := { row := bigRestsUptoRow, standIns := [], harness := (true, "be38dfa8e9cd549c540c924cac23df0da3b44470a2e564f615728a18587c731c"), looks := false }, kinds := [], alts := [], laidByText := true, laidKinds := [.data, .data, .data], laidTests := true, laidLooks := .later }
def BigRestsUptoCardSaid : Prop := Claim7.holds Tryd.pinned (.plain (OpenSpec.upto bigRestsSpec)) bigRestsUptoCard

/-- THE SECOND FORM's CARD OF 'whetstonelaw02.BigGcds'. -/
def bigGcdsUptoCard : Claim7 := { stood := { row := bigGcdsUptoRow, standIns := [], harness := (true, "be38dfa8e9cd549c540c924cac23df0da3b44470a2e564f615728a18587c731c"), looks := false }, kinds := [], alts := [], laidByText := true, laidKinds := [.data, .data, .data], laidTests := true, laidLooks := .later }
def BigGcdsUptoCardSaid : Prop := Claim7.holds Tryd.pinned (.plain (OpenSpec.upto bigGcdsSpec)) bigGcdsUptoCard

/-- THE SECOND FORM's CARD OF 'whetstonetop.TopNumbers'. -/
def topNumbersUptoCard : Claim7 := { stood := { row := topNumbersUptoRow, standIns := [], harness := (true, "be38dfa8e9cd549c540c924cac23df0da3b44470a2e564f615728a18587c731c"), looks := false }, kinds := [], alts := [], laidByText := true, laidKinds := [.data, .data, .data], laidTests := true, laidLooks := .later }
def TopNumbersUptoCardSaid : Prop := Claim7.holds Tryd.pinned (.plain (OpenSpec.upto topNumbersSpec)) topNumbersUptoCard
end Rows
end Go.Proofs.YtdhdmpolbamaoabDoor
