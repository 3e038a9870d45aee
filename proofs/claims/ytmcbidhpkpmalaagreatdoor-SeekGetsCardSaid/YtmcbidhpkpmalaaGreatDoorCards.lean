/-
  DERIVED. GIVEN WITH THE SEED: THE CARDS: each row of YtmcbidhpkpmalaaGreatDoorRows.lean that lists a variable, with what it lists TIED to the program's text (the seventh form; the later family's looks); each row that meets fmt, with fmt's text TOLD by the authors' own Lean function (tested against real Go, not proved from fmt's source: count such statements apart). THE CARD IS WHAT COUNTS. Prove the row's statement (the work); the ties are given (YtmcbidhpkpmalaaGreatDoorTie.lean); close each card by the builder's one call (the guide's Derived/Test/ToyasCard.lean, 'card_holds'). Laid BY PROGRAM, IN A SANDBOX (cutbox-door.mjs). By AI agents, Wed Nov 11 2026. No macro, syntax, notation, axiom, sorry.
-/
import Derived.Test.YtmcbidhpkpmalaaGreatDoorRows
import GoSem.ClaimSeven
namespace Go.Proofs.YtmcbidhpkpmalaaGreatDoor
namespace Rows

/-- THE TIED CARD OF 'sluicegatelaw19.SeekWays'. -/
def seekWaysCard : Claim7 := { stood := { row := seekWaysRow, standIns := [], harness := (true, "29695d8c8a93614bfacbdd47149573b81204ea7ca830dd0ddf83a35f94bba81e"), looks := false }, kinds := [], alts := [], laidByText := true, laidKinds := [.data], laidTests := true, laidLooks := .later }
def SeekWaysCardSaid : Prop := Claim7.holds Tryz.pinned (.plain (OpenSpec.ofChange seekWaysSpec)) seekWaysCard

/-- THE TIED CARD OF 'sluicegatelaw19.SeekGets'. -/
def seekGetsCard : Claim7 := { stood := { row := seekGetsRow, standIns := [], harness := (true, "29695d8c8a93614bfacbdd47149573b81204ea7ca830dd0ddf83a35f94bba81e"), looks := false }, kinds := [], alts := [], laidByText := true, laidKinds := [.data], laidTests := true, laidLooks := .later }
def SeekGetsCardSaid : Prop := Claim7.holds Tryz.pinned (.plain (OpenSpec.ofChange seekGetsSpec)) seekGetsCard

/-- THE TIED CARD OF 'sluicegatelaw19.SeekCosts'. -/
def seekCostsCard : Claim7 := { stood := { row := seekCostsRow, standIns := [], harness := (true, "29695d8c8a93614bfacbdd47149573b81204ea7ca830dd0ddf83a35f94bba81e"), looks := false }, kinds := [], alts := [], laidByText := true, laidKinds := [.data], laidTests := true, laidLooks := .later }
def SeekCostsCardSaid : Prop := Claim7.holds Tryz.pinned (.plain (OpenSpec.ofChange seekCostsSpec)) seekCostsCard

/-- THE TIED CARD OF 'sluicegatelaw19.SeekCorrupt'. -/
def seekCorruptCard : Claim7 := { stood := { row := seekCorruptRow, standIns := [], harness := (true, "29695d8c8a93614bfacbdd47149573b81204ea7ca830dd0ddf83a35f94bba81e"), looks := false }, kinds := [], alts := [], laidByText := true, laidKinds := [.data], laidTests := true, laidLooks := .later }
def SeekCorruptCardSaid : Prop := Claim7.holds Tryz.pinned (.plain (OpenSpec.ofChange seekCorruptSpec)) seekCorruptCard

/-- THE SECOND FORM's CARD OF 'sluicegatelaw19.SeekWays'. -/
def seekWaysUptoCard : Claim7 := { stood := { row := seekWaysUptoRow, standIns := [], harness := (true, "29695d8c8a93614bfacbdd47149573b81204ea7ca830dd0ddf83a35f94bba81e"), looks := false }, kinds := [], alts := [], laidByText := true, laidKinds := [.data], laidTests := true, laidLooks := .later }
def SeekWaysUptoCardSaid : Prop := Claim7.holds Tryz.pinned (.plain (OpenSpec.upto seekWaysSpec)) seekWaysUptoCard

/-- THE SECOND FORM's CARD OF 'sluicegatelaw19.SeekGets'. -/
def seekGetsUptoCard : Claim7 := { stood := { row := seekGetsUptoRow, standIns := [], harness := (true, "29695d8c8a93614bfacbdd47149573b81204ea7ca830dd0ddf83a35f94bba81e"), looks := false }, kinds := [], alts := [], laidByText := true, laidKinds := [.data], laidTests := true, laidLooks := .later }
def SeekGetsUptoCardSaid : Prop := Claim7.holds Tryz.pinned (.plain (OpenSpec.upto seekGetsSpec)) seekGetsUptoCard

/-- THE SECOND FORM's CARD OF 'sluicegatelaw19.SeekCosts'. -/
def seekCostsUptoCard : Claim7 := { stood := { row := seekCostsUptoRow, standIns := [], harness := (true, "29695d8c8a93614bfacbdd47149573b81204ea7ca830dd0ddf83a35f94bba81e"), looks := false }, kinds := [], alts := [], laidByText := true, laidKinds := [.data], laidTests := true, laidLooks := .later }
def SeekCostsUptoCardSaid : Prop := Claim7.holds Tryz.pinned (.plain (OpenSpec.upto seekCostsSpec)) seekCostsUptoCard

/-- THE SECOND FORM's CARD OF 'sluicegatelaw19.SeekCorrupt'. -/
def seekCorruptUptoCard : Claim7 := { stood := { row := seekCorruptUptoRow, standIns := [], harness := (true, "29695d8c8a93614bfacbdd47149573b81204ea7ca830dd0ddf83a35f94bba81e"), looks := false }, kinds := [], alts := [], laidByText := true, laidKinds := [.data], laidTests := true, laidLooks := .later }
def SeekCorruptUptoCardSaid : Prop := Claim7.holds Tryz.pinned (.plain (OpenSpec.upto seekCorruptSpec)) seekCorruptUptoCard
end Rows
end Go.Proofs.YtmcbidhpkpmalaaGreatDoor
