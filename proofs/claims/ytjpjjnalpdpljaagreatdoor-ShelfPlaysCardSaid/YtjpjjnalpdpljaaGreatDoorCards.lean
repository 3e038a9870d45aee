/-
  DERIVED. GIVEN WITH THE SEED: THE CARDS: each row of YtjpjjnalpdpljaaGreatDoorRows.lean that lists a variable, with what it lists TIED to the program's text (the seventh form; the later family's looks); each row that meets fmt, with fmt's text TOLD by the authors' own Lean function (tested against real Go, not proved from fmt's source: count such statements apart). THE CARD IS WHAT COUNTS. Prove the row's statement (the work); the ties are given (YtjpjjnalpdpljaaGreatDoorTie.lean); close each card by the builder's one call (the guide's Derived/Test/ToyasCard.lean, 'card_holds'). Laid BY PROGRAM, IN A SANDBOX (cutbox-door.mjs). By AI agents, Wed Nov 11 2026. No macro, syntax, notation, axiom, sorry.
-/
import Derived.Test.YtjpjjnalpdpljaaGreatDoorRows
import GoSem.ClaimSeven
namespace Go.Proofs.YtjpjjnalpdpljaaGreatDoor
namespace Rows

/-- THE TIED CARD OF 'sluicegatelaw18.ShelfPlays'. -/
def shelfPlaysCard : Claim7 := { stood := { row := shelfPlaysRow, standIns := [], harness := (true, "58d7636680be9abb8efc2d7591958968b1d1ff9a825acdc1aee1225161d6735a"), looks := false }, kinds := [], alts := [], laidByText := true, laidKinds := [.data], laidTests := true, laidLooks := .later }
def ShelfPlaysCardSaid : Prop := Claim7.holds Tryz.pinned (.plain (OpenSpec.ofChange shelfPlaysSpec)) shelfPlaysCard

/-- THE TIED CARD OF 'sluicegatelaw18.ShelfCosts'. -/
def shelfCostsCard : Claim7 := { stood := { row := shelfCostsRow, standIns := [], harness := (true, "58d7636680be9abb8efc2d7591958968b1d1ff9a825acdc1aee1225161d6735a"), looks := false }, kinds := [], alts := [], laidByText := true, laidKinds := [.data], laidTests := true, laidLooks := .later }
def ShelfCostsCardSaid : Prop := Claim7.holds Tryz.pinned (.plain (OpenSpec.ofChange shelfCostsSpec)) shelfCostsCard

/-- THE TIED CARD OF 'sluicegatelaw18.ShelfFlushed'. -/
def shelfFlushedCard : Claim7 := { stood := { row := shelfFlushedRow, standIns := [], harness := (true, "58d7636680be9abb8efc2d7591958968b1d1ff9a825acdc1aee1225161d6735a"), looks := false }, kinds := [], alts := [], laidByText := true, laidKinds := [.data], laidTests := true, laidLooks := .later }
def ShelfFlushedCardSaid : Prop := Claim7.holds Tryz.pinned (.plain (OpenSpec.ofChange shelfFlushedSpec)) shelfFlushedCard

/-- THE TIED CARD OF 'sluicegatelaw18.ShelfNone'. -/
def shelfNoneCard : Claim7 := { stood := { row := shelfNoneRow, standIns := [], harness := (true, "58d7636680be9abb8efc2d7591958968b1d1ff9a825acdc1aee1225161d6735a"), looks := false }, kinds := [], alts := [], laidByText := true, laidKinds := [.data], laidTests := true, laidLooks := .later }
def ShelfNoneCardSaid : Prop := Claim7.holds Tryz.pinned (.plain (OpenSpec.ofChange shelfNoneSpec)) shelfNoneCard

/-- THE SECOND FORM's CARD OF 'sluicegatelaw18.ShelfPlays'. -/
def shelfPlaysUptoCard : Claim7 := { stood := { row := shelfPlaysUptoRow, standIns := [], harness := (true, "58d7636680be9abb8efc2d7591958968b1d1ff9a825acdc1aee1225161d6735a"), looks := false }, kinds := [], alts := [], laidByText := true, laidKinds := [.data], laidTests := true, laidLooks := .later }
def ShelfPlaysUptoCardSaid : Prop := Claim7.holds Tryz.pinned (.plain (OpenSpec.upto shelfPlaysSpec)) shelfPlaysUptoCard

/-- THE SECOND FORM's CARD OF 'sluicegatelaw18.ShelfCosts'. -/
def shelfCostsUptoCard : Claim7 := { stood := { row := shelfCostsUptoRow, standIns := [], harness := (true, "58d7636680be9abb8efc2d7591958968b1d1ff9a825acdc1aee1225161d6735a"), looks := false }, kinds := [], alts := [], laidByText := true, laidKinds := [.data], laidTests := true, laidLooks := .later }
def ShelfCostsUptoCardSaid : Prop := Claim7.holds Tryz.pinned (.plain (OpenSpec.upto shelfCostsSpec)) shelfCostsUptoCard

/-- THE SECOND FORM's CARD OF 'sluicegatelaw18.ShelfFlushed'. -/
def shelfFlushedUptoCard : Claim7 := { stood := { row := shelfFlushedUptoRow, standIns := [], harness := (true, "58d7636680be9abb8efc2d7591958968b1d1ff9a825acdc1aee1225161d6735a"), looks := false }, kinds := [], alts := [], laidByText := true, laidKinds := [.data], laidTests := true, laidLooks := .later }
def ShelfFlushedUptoCardSaid : Prop := Claim7.holds Tryz.pinned (.plain (OpenSpec.upto shelfFlushedSpec)) shelfFlushedUptoCard

/-- THE SECOND FORM's CARD OF 'sluicegatelaw18.ShelfNone'. -/
def shelfNoneUptoCard : Claim7 := { stood := { row := shelfNoneUptoRow, standIns := [], harness := (true, "58d7636680be9abb8efc2d7591958968b1d1ff9a825acdc1aee1225161d6735a"), looks := false }, kinds := [], alts := [], laidByText := true, laidKinds := [.data], laidTests := true, laidLooks := .later }
def ShelfNoneUptoCardSaid : Prop := Claim7.holds Tryz.pinned (.plain (OpenSpec.upto shelfNoneSpec)) shelfNoneUptoCard
end Rows
end Go.Proofs.YtjpjjnalpdpljaaGreatDoor
