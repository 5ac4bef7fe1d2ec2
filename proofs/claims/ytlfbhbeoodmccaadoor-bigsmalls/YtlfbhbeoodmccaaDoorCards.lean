/-
  DERIVED. GIVEN WITH THE SEED: THE CARDS: each row of YtlfbhbeoodmccaaDoorRows.lean that lists a variable, with what it lists TIED to the program's text (the seventh form; the later family's looks); each row that meets fmt, with fmt's text TOLD by the authors' own Lean function (tested against real Go, not proved from fmt's source: count such statements apart). THE CARD IS WHAT COUNTS. Prove the row's statement (the work); the ties are given (YtlfbhbeoodmccaaDoorTie.lean); close each card by the builder's one call (the guide's Derived/Test/ToyasCard.lean, 'card_holds'). Laid BY PROGRAM, IN A SANDBOX (cutbox-door.mjs). By AI agents, Wed Nov 11 2026. No macro, syntax, notation, axiom, sorry.
-/
import Derived.Test.YtlfbhbeoodmccaaDoorRows
import GoSem.ClaimSeven
namespace Go.Proofs.YtlfbhbeoodmccaaDoor
namespace Rows

/-- THE TIED CARD OF 'whetstonelaw02.BigSmalls'. -/
def bigSmallsCard : Claim7 := { stood := { row := bigSmallsRow, standIns := [], harness := (true, "08874dc3378889c6d110cbeb2515e25825bfb69037094531d2357b63aa968b50"), looks := false }, kinds := [], alts := [], laidByText := true, laidKinds := [.data, .data, .data], laidTests := true, laidLooks := .later }
def BigSmallsCardSaid : Prop := Claim7.holds Tryd.pinned (.plain (OpenSpec.ofChange bigSmallsSpec)) bigSmallsCard

/-- THE TIED CARD OF 'whetstonelaw02.BigSums'. -/
def bigSumsCard : Claim7 := { stood := { row := bigSumsRow, standIns := [], harness := (true, "08874dc3378889c6d110cbeb2515e25825bfb69037094531d2357b63aa968b50"), looks := false }, kinds := [], alts := [], laidByText := true, laidKinds := [.data, .data, .data], laidTests := true, laidLooks := .later }
def BigSumsCardSaid : Prop := Claim7.holds Tryd.pinned (.plain (OpenSpec.ofChange bigSumsSpec)) bigSumsCard

/-- THE TIED CARD OF 'whetstonelaw02.BigProducts'. -/
def bigProductsCard : Claim7 := { stood := { row := bigProductsRow, standIns := [], harness := (true, "08874dc3378889c6d110cbeb2515e25825bfb69037094531d2357b63aa968b50"), looks := false }, kinds := [], alts := [], laidByText := true, laidKinds := [.data, .data, .data], laidTests := true, laidLooks := .later }
def BigProductsCardSaid : Prop := Claim7.holds Tryd.pinned (.plain (OpenSpec.ofChange bigProductsSpec)) bigProductsCard

/-- THE SECOND FORM's CARD OF 'whetstonelaw02.BigSmalls'. -/
def bigSmallsUptoCard : Claim7 := { stood := { row := bigSmallsUptoRow, standIns := [], harness := (true, "08874dc3378889c6d110cbeb2515e25825bfb69037094531d2357b63aa968b50"), looks := false }, kinds := [], alts := [], laidByText := true, laidKinds := [.data, .data, .data], laidTests := true, laidLooks := .later }
def BigSmallsUptoCardSaid : Prop := Claim7.holds Tryd.pinned (.plain (OpenSpec.upto bigSmallsSpec)) bigSmallsUptoCard

/-- THE SECOND FORM's CARD OF 'whetstonelaw02.BigSums'. -/
def bigSumsUptoCard : Claim7 := { stood := { row := bigSumsUptoRow, standIns := [], harness := (true, "08874dc3378889c6d110cbeb2515e25825bfb69037094531d2357b63aa968b50"), looks := false }, kinds := [], alts := [], laidByText := true, laidKinds := [.data, .data, .data], laidTests := true, laidLooks := .later }
def BigSumsUptoCardSaid : Prop := Claim7.holds Tryd.pinned (.plain (OpenSpec.upto bigSumsSpec)) bigSumsUptoCard

/-- THE SECOND FORM's CARD OF 'whetstonelaw02.BigProducts'. -/
def bigProductsUptoCard : Claim7 := { stood := { row := bigProductsUptoRow, standIns := [], harness := (true, "08874dc3378889c6d110cbeb2515e25825bfb69037094531d2357b63aa968b50"), looks := false }, kinds := [], alts := [], laidByText := true, laidKinds := [.data, .data, .data], laidTests := true, laidLooks := .later }
def BigProductsUptoCardSaid : Prop := Claim7.holds Tryd.pinned (.plain (OpenSpec.upto bigProductsSpec)) bigProductsUptoCard
end Rows
end Go.Proofs.YtlfbhbeoodmccaaDoor
