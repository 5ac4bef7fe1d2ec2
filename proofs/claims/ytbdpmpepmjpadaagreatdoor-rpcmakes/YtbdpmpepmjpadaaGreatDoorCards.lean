/-
  DERIVED. GIVEN WITH THE SEED: THE CARDS: each row of YtbdpmpepmjpadaaGreatDoorRows.lean that lists a variable, with what it lists TIED to the program's text (the seventh form; the later family's looks); each row that meets fmt, with fmt's text TOLD by the authors' own Lean function (tested against real Go, not proved from fmt's source: count such statements apart). THE CARD IS WHAT COUNTS. Prove the row's statement (the work); the ties are given (YtbdpmpepmjpadaaGreatDoorTie.lean); close each card by the builder's one call (the guide's Derived/Test/ToyasCard.lean, 'card_holds'). Laid BY PROGRAM, IN A SANDBOX (cutbox-door.mjs). By AI agents, Wed Nov 11 2026. No macro, syntax, notation, axiom, sorry.
-/
import Derived.Test.YtbdpmpepmjpadaaGreatDoorRows
import GoSem.ClaimSeven
namespace Go.Proofs.YtbdpmpepmjpadaaGreatDoor
namespace Rows

/-- THE TIED CARD OF 'whetstonelaw06.RpcReads'. -/
def rpcReadsCard : Claim7 := { stood := { row := rpcReadsRow, standIns := [], harness := (true, "693db0d356e20543120e5ad4295495f533d3d1c24e9d911346cae40706de6366"), looks := true }, kinds := [], alts := [], laidByText := true, laidKinds := [.data, .data, .data, .data, .sentinel, .sentinel, .pinned], laidTests := true, laidLooks := .later }
def RpcReadsCardSaid : Prop := Claim7.holds Tryz.pinned (.plain (OpenSpec.ofChange rpcReadsSpec)) rpcReadsCard

/-- THE TIED CARD OF 'whetstonelaw06.RpcMakes'. -/
def rpcMakesCard : Claim7 := { stood := { row := rpcMakesRow, standIns := [], harness := (true, "693db0d356e20543120e5ad4295495f533d3d1c24e9d911346cae40706de6366"), looks := true }, kinds := [], alts := [], laidByText := true, laidKinds := [.data, .data, .data, .data, .sentinel, .sentinel, .pinned], laidTests := true, laidLooks := .later }
def RpcMakesCardSaid : Prop := Claim7.holds Tryz.pinned (.plain (OpenSpec.ofChange rpcMakesSpec)) rpcMakesCard

/-- THE TIED CARD OF 'whetstonelaw06.RpcPositions'. -/
def rpcPositionsCard : Claim7 := { stood := { row := rpcPositionsRow, standIns := [], harness := (true, "693db0d356e20543120e5ad4295495f533d3d1c24e9d911346cae40706de6366"), looks := true }, kinds := [], alts := [], laidByText := true, laidKinds := [.data, .data, .data, .data, .sentinel, .sentinel, .pinned], laidTests := true, laidLooks := .later }
def RpcPositionsCardSaid : Prop := Claim7.holds Tryz.pinned (.plain (OpenSpec.ofChange rpcPositionsSpec)) rpcPositionsCard

/-- THE SECOND FORM's CARD OF 'whetstonelaw06.RpcReads'. -/
def rpcReadsUptoCard : Claim7 := { stood := { row := rpcReadsUptoRow, standIns := [], harness := (true, "693db0d356e20543120e5ad4295495f533d3d1c24e9d911346cae40706de6366"), looks := true }, kinds := [], alts := [], laidByText := true, laidKinds := [.data, .data, .data, .data, .sentinel, .sentinel, .pinned], laidTests := true, laidLooks := .later }
def RpcReadsUptoCardSaid : Prop := Claim7.holds Tryz.pinned (.plain (OpenSpec.upto rpcReadsSpec)) rpcReadsUptoCard

/-- THE SECOND FORM's CARD OF 'whetstonelaw06.RpcMakes'. -/
def rpcMakesUptoCard : Claim7 := { stood := { row := rpcMakesUptoRow, standIns := [], harness := (true, "693db0d356e20543120e5ad4295495f533d3d1c24e9d911346cae40706de6366"), looks := true }, kinds := [], alts := [], laidByText := true, laidKinds := [.data, .data, .data, .data, .sentinel, .sentinel, .pinned], laidTests := true, laidLooks := .later }
def RpcMakesUptoCardSaid : Prop := Claim7.holds Tryz.pinned (.plain (OpenSpec.upto rpcMakesSpec)) rpcMakesUptoCard

/-- THE SECOND FORM's CARD OF 'whetstonelaw06.RpcPositions'. -/
def rpcPositionsUptoCard : Claim7 := { stood := { row := rpcPositionsUptoRow, standIns := [], harness := (true, "693db0d356e20543120e5ad4295495f533d3d1c24e9d911346cae40706de6366"), looks := true }, kinds := [], alts := [], laidByText := true, laidKinds := [.data, .data, .data, .data, .sentinel, .sentinel, .pinned], laidTests := true, laidLooks := .later }
def RpcPositionsUptoCardSaid : Prop := Claim7.holds Tryz.pinned (.plain (OpenSpec.upto rpcPositionsSpec)) rpcPositionsUptoCard
end Rows
end Go.Proofs.YtbdpmpepmjpadaaGreatDoor
