/-
  No cell of these rows narrows 'for every input' (looked for: loops, veiled, ifaces, maps, wideKeys, modest, calm, conditions, laid).
  DERIVED. THE GIVEN ROWS OF THIS SEAT. 4 by the template 'for every input the law returns true; each argument reads behind the call as it read before'; 0 by the template 'total and deterministic' (their statements: YtmgmkfophdjidaaTotals.lean).
  GIVEN WITH THE SEED: the statements are not yours to turn. If you find one false, say at which input.
  Laid BY PROGRAM, IN A SANDBOX (cutbox-rows.mjs): the forced cells as the released guide's own fill.sh prints them over the translation 334b55df058bdf13… (all of the seat's roots in one cut). By AI agents, Wed Nov 11 2026. No macro, syntax, notation, axiom, sorry.
-/
import Derived.Test.YtmgmkfophdjidaaChecked
import GoSem.Claim
import GoSem.ClaimJoined
import GoSem.ClaimMapViews
import Derived.JoinedTies
import Derived.KernelRfl
namespace Go.Proofs.Ytmgmkfophdjidaa
/- THE CELL 'sum', in the pinned program and in every row, IS THE sha256 OF THE DUMP (.gsa) THAT YtmgmkfophdjidaaProg.lean LOADS. Nothing in Lean hashes anything: it is a label: what it is worth is what the hold of that sum in a sandbox is worth. -/
noncomputable def Try.pinned : Pinned := { name := "ytmgmkfophdjidaa", sum := "334b55df058bdf1328dea426f2be9e366c2ec94511c38d52a0329d78b3d208b3", checked := Try.checked }
namespace Rows
def none {H : Type} : Left H := { results := [], args := [] }

/-- 'sluicegatelaw10.BufRights': WHATEVER THE INPUT: true; the input reads as it did. -/
def bufRightsSpec : ChangeSpec := { name := "bufRights", fn := fun _ => fun
  | [d1, d2] => { results := [.lit (.bool true)], args := [d1, d2] }
  | _ => none }
def bufRightsRow : OpenClaim := { program := "ytmgmkfophdjidaa", sum := "334b55df058bdf1328dea426f2be9e366c2ec94511c38d52a0329d78b3d208b3", func := "sluicegate/sluicegatelaw10.BufRights", spec := "bufRights", inPlace := ["internal/bytealg.abigen_runtime_cmpstring"], apart := false }
def BufRightsSaid : Prop := bufRightsRow.holds Try.pinned (OpenSpec.ofChange bufRightsSpec)

/-- ITS FALSE NEIGHBOUR: 'it returns false'. Refute it at one input. -/
def bufRightsWrong : ChangeSpec := { name := "bufRights", fn := fun _ => fun
  | [d1, d2] => { results := [.lit (.bool false)], args := [d1, d2] }
  | _ => none }
def BufRightsWrongFalsely : Prop := bufRightsRow.holds Try.pinned (OpenSpec.ofChange bufRightsWrong)

/-- 'sluicegatelaw10.BufPuts': WHATEVER THE INPUT: true; the input reads as it did. -/
def bufPutsSpec : ChangeSpec := { name := "bufPuts", fn := fun _ => fun
  | [d1, d2, d3] => { results := [.lit (.bool true)], args := [d1, d2, d3] }
  | _ => none }
def bufPutsRow : OpenClaim := { program := "ytmgmkfophdjidaa", sum := "334b55df058bdf1328dea426f2be9e366c2ec94511c38d52a0329d78b3d208b3", func := "sluicegate/sluicegatelaw10.BufPuts", spec := "bufPuts", inPlace := ["internal/bytealg.abigen_runtime_cmpstring"], unfollowed := true, recurses := true, apart := false }
def BufPutsSaid : Prop := bufPutsRow.holds Try.pinned (OpenSpec.ofChange bufPutsSpec)

/-- ITS FALSE NEIGHBOUR: 'it returns false'. Refute it at one input. -/
def bufPutsWrong : ChangeSpec := { name := "bufPuts", fn := fun _ => fun
  | [d1, d2, d3] => { results := [.lit (.bool false)], args := [d1, d2, d3] }
  | _ => none }
def BufPutsWrongFalsely : Prop := bufPutsRow.holds Try.pinned (OpenSpec.ofChange bufPutsWrong)

/-- 'sluicegatelaw10.BufParts': WHATEVER THE INPUT: true; the input reads as it did. -/
def bufPartsSpec : ChangeSpec := { name := "bufParts", fn := fun _ => fun
  | [d1, d2, d3] => { results := [.lit (.bool true)], args := [d1, d2, d3] }
  | _ => none }
def bufPartsRow : OpenClaim := { program := "ytmgmkfophdjidaa", sum := "334b55df058bdf1328dea426f2be9e366c2ec94511c38d52a0329d78b3d208b3", func := "sluicegate/sluicegatelaw10.BufParts", spec := "bufParts", inPlace := ["internal/bytealg.abigen_runtime_cmpstring"], unfollowed := true, recurses := true, apart := false }
def BufPartsSaid : Prop := bufPartsRow.holds Try.pinned (OpenSpec.ofChange bufPartsSpec)

/-- ITS FALSE NEIGHBOUR: 'it returns false'. Refute it at one input. -/
def bufPartsWrong : ChangeSpec := { name := "bufParts", fn := fun _ => fun
  | [d1, d2, d3] => { results := [.lit (.bool false)], args := [d1, d2, d3] }
  | _ => none }
def BufPartsWrongFalsely : Prop := bufPartsRow.holds Try.pinned (OpenSpec.ofChange bufPartsWrong)

/-- 'sluicegatelaw10.BufWhole': WHATEVER THE INPUT: true; the input reads as it did. -/
def bufWholeSpec : ChangeSpec := { name := "bufWhole", fn := fun _ => fun
  | [d1, d2, d3, d4] => { results := [.lit (.bool true)], args := [d1, d2, d3, d4] }
  | _ => none }
def bufWholeRow : OpenClaim := { program := "ytmgmkfophdjidaa", sum := "334b55df058bdf1328dea426f2be9e366c2ec94511c38d52a0329d78b3d208b3", func := "sluicegate/sluicegatelaw10.BufWhole", spec := "bufWhole", inPlace := ["internal/bytealg.abigen_runtime_cmpstring"], unfollowed := true, recurses := true, apart := false }
def BufWholeSaid : Prop := bufWholeRow.holds Try.pinned (OpenSpec.ofChange bufWholeSpec)

/-- ITS FALSE NEIGHBOUR: 'it returns false'. Refute it at one input. -/
def bufWholeWrong : ChangeSpec := { name := "bufWhole", fn := fun _ => fun
  | [d1, d2, d3, d4] => { results := [.lit (.bool false)], args := [d1, d2, d3, d4] }
  | _ => none }
def BufWholeWrongFalsely : Prop := bufWholeRow.holds Try.pinned (OpenSpec.ofChange bufWholeWrong)

/- THE SECOND FORM. 'bulk': how many values and letters a reading holds, each counted each time it is reached (what is shared counts as often as it is met; a slice's spare places count too). A statement '..UptoSaid' is the law's where the arguments, and the package variables that the reading takes, are together of bulk at most 1048576: NARROWER than '..Said'. Prove '..Said' where nothing that the law and all that it calls make is longer than what came in: it says more and counts as full. Else prove '..UptoSaid'. A law counts once. -/
mutual
def uptoBulk {H : Type} : DataW H → Nat
  | .lit (.string bytes) => bytes.length + 1
  | .lit _ => 1
  | .nil => 1
  | .ptr d => uptoBulk d + 1
  | .slice elems spare => uptoBulkAll elems + uptoBulkAll spare + 1
  | .agg parts => uptoBulkAll parts + 1
  | .iface _ d => uptoBulk d + 1
  | .map entries => uptoBulkEntries entries + 1
  | .held _ => 1
def uptoBulkAll {H : Type} : List (DataW H) → Nat
  | [] => 0
  | d :: r => uptoBulk d + uptoBulkAll r
def uptoBulkEntries {H : Type} : List (Lit × DataW H) → Nat
  | [] => 0
  | x :: r => uptoBulkEntry x + uptoBulkEntries r
def uptoBulkEntry {H : Type} : Lit × DataW H → Nat
  | (.string bytes, d) => bytes.length + uptoBulk d + 1
  | (_, d) => uptoBulk d + 1
 end
def uptoSmall : (H : Type) → List (DataW H) → Bool := fun _ ds => decide (uptoBulkAll ds ≤ 1048576)
def OpenSpec.upto (s : _root_.Go.ChangeSpec) : _root_.Go.OpenSpec := { _root_.Go.OpenSpec.ofChange s with cond := some uptoSmall }

/-- 'sluicegatelaw10.BufRights', WHERE WHAT IT READS IS OF BULK AT MOST 1048576: true; the input reads as it did. -/
def bufRightsUptoRow : OpenClaim := { program := "ytmgmkfophdjidaa", sum := "334b55df058bdf1328dea426f2be9e366c2ec94511c38d52a0329d78b3d208b3", func := "sluicegate/sluicegatelaw10.BufRights", spec := "bufRights", inPlace := ["internal/bytealg.abigen_runtime_cmpstring"], apart := false, narrowed := true }
def BufRightsUptoSaid : Prop := bufRightsUptoRow.holds Try.pinned (OpenSpec.upto bufRightsSpec)

/-- 'sluicegatelaw10.BufPuts', WHERE WHAT IT READS IS OF BULK AT MOST 1048576: true; the input reads as it did. -/
def bufPutsUptoRow : OpenClaim := { program := "ytmgmkfophdjidaa", sum := "334b55df058bdf1328dea426f2be9e366c2ec94511c38d52a0329d78b3d208b3", func := "sluicegate/sluicegatelaw10.BufPuts", spec := "bufPuts", inPlace := ["internal/bytealg.abigen_runtime_cmpstring"], unfollowed := true, recurses := true, apart := false, narrowed := true }
def BufPutsUptoSaid : Prop := bufPutsUptoRow.holds Try.pinned (OpenSpec.upto bufPutsSpec)

/-- 'sluicegatelaw10.BufParts', WHERE WHAT IT READS IS OF BULK AT MOST 1048576: true; the input reads as it did. -/
def bufPartsUptoRow : OpenClaim := { program := "ytmgmkfophdjidaa", sum := "334b55df058bdf1328dea426f2be9e366c2ec94511c38d52a0329d78b3d208b3", func := "sluicegate/sluicegatelaw10.BufParts", spec := "bufParts", inPlace := ["internal/bytealg.abigen_runtime_cmpstring"], unfollowed := true, recurses := true, apart := false, narrowed := true }
def BufPartsUptoSaid : Prop := bufPartsUptoRow.holds Try.pinned (OpenSpec.upto bufPartsSpec)

/-- 'sluicegatelaw10.BufWhole', WHERE WHAT IT READS IS OF BULK AT MOST 1048576: true; the input reads as it did. -/
def bufWholeUptoRow : OpenClaim := { program := "ytmgmkfophdjidaa", sum := "334b55df058bdf1328dea426f2be9e366c2ec94511c38d52a0329d78b3d208b3", func := "sluicegate/sluicegatelaw10.BufWhole", spec := "bufWhole", inPlace := ["internal/bytealg.abigen_runtime_cmpstring"], unfollowed := true, recurses := true, apart := false, narrowed := true }
def BufWholeUptoSaid : Prop := bufWholeUptoRow.holds Try.pinned (OpenSpec.upto bufWholeSpec)

end Rows
end Go.Proofs.Ytmgmkfophdjidaa
