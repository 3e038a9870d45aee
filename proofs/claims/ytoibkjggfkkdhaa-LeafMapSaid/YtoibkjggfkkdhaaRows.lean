/-
  No cell of these rows narrows 'for every input' (looked for: loops, veiled, ifaces, maps, wideKeys, modest, calm, conditions, laid).
  DERIVED. THE GIVEN ROWS OF THIS SEAT. 4 by the template 'for every input the law returns true; each argument reads behind the call as it read before'; 0 by the template 'total and deterministic' (their statements: YtoibkjggfkkdhaaTotals.lean).
  GIVEN WITH THE SEED: the statements are not yours to turn. If you find one false, say at which input.
  Laid BY PROGRAM, IN A SANDBOX (cutbox-rows.mjs): the forced cells as the released guide's own fill.sh prints them over the translation 10f4916e7e40a9f9… (all of the seat's roots in one cut). By AI agents, Wed Nov 11 2026. No macro, syntax, notation, axiom, sorry.
-/
import Derived.Test.YtoibkjggfkkdhaaChecked
import GoSem.Claim
import GoSem.ClaimJoined
import GoSem.ClaimMapViews
import Derived.JoinedTies
import Derived.KernelRfl
namespace Go.Proofs.Ytoibkjggfkkdhaa
/- THE CELL 'sum', in the pinned program and in every row, IS THE sha256 OF THE DUMP (.gsa) THAT YtoibkjggfkkdhaaProg.lean LOADS. Nothing in Lean hashes anything: it is a label: what it is worth is what the hold of that sum in a sandbox is worth. -/
noncomputable def Try.pinned : Pinned := { name := "ytoibkjggfkkdhaa", sum := "10f4916e7e40a9f965d24fdf56c12e69d6c5743d839d2552304523c678659304", checked := Try.checked }
namespace Rows
def none {H : Type} : Left H := { results := [], args := [] }

/-- 'sluicegatelaw11.LeafRights': WHATEVER THE INPUT: true; the input reads as it did. -/
def leafRightsSpec : ChangeSpec := { name := "leafRights", fn := fun _ => fun
  | [d1, d2, d3] => { results := [.lit (.bool true)], args := [d1, d2, d3] }
  | _ => none }
def leafRightsRow : OpenClaim := { program := "ytoibkjggfkkdhaa", sum := "10f4916e7e40a9f965d24fdf56c12e69d6c5743d839d2552304523c678659304", func := "sluicegate/sluicegatelaw11.LeafRights", spec := "leafRights", inPlace := ["internal/bytealg.abigen_runtime_cmpstring"], unfollowed := true, recurses := true, apart := false }
def LeafRightsSaid : Prop := leafRightsRow.holds Try.pinned (OpenSpec.ofChange leafRightsSpec)

/-- ITS FALSE NEIGHBOUR: 'it returns false'. Refute it at one input. -/
def leafRightsWrong : ChangeSpec := { name := "leafRights", fn := fun _ => fun
  | [d1, d2, d3] => { results := [.lit (.bool false)], args := [d1, d2, d3] }
  | _ => none }
def LeafRightsWrongFalsely : Prop := leafRightsRow.holds Try.pinned (OpenSpec.ofChange leafRightsWrong)

/-- 'sluicegatelaw11.LeafApplies': WHATEVER THE INPUT: true; the input reads as it did. -/
def leafAppliesSpec : ChangeSpec := { name := "leafApplies", fn := fun _ => fun
  | [d1, d2] => { results := [.lit (.bool true)], args := [d1, d2] }
  | _ => none }
def leafAppliesRow : OpenClaim := { program := "ytoibkjggfkkdhaa", sum := "10f4916e7e40a9f965d24fdf56c12e69d6c5743d839d2552304523c678659304", func := "sluicegate/sluicegatelaw11.LeafApplies", spec := "leafApplies", inPlace := ["internal/bytealg.abigen_runtime_cmpstring"], unfollowed := true, recurses := true, apart := false }
def LeafAppliesSaid : Prop := leafAppliesRow.holds Try.pinned (OpenSpec.ofChange leafAppliesSpec)

/-- ITS FALSE NEIGHBOUR: 'it returns false'. Refute it at one input. -/
def leafAppliesWrong : ChangeSpec := { name := "leafApplies", fn := fun _ => fun
  | [d1, d2] => { results := [.lit (.bool false)], args := [d1, d2] }
  | _ => none }
def LeafAppliesWrongFalsely : Prop := leafAppliesRow.holds Try.pinned (OpenSpec.ofChange leafAppliesWrong)

/-- 'sluicegatelaw11.LeafMap': WHATEVER THE INPUT: true; the input reads as it did. -/
def leafMapSpec : ChangeSpec := { name := "leafMap", fn := fun _ => fun
  | [d1, d2, d3] => { results := [.lit (.bool true)], args := [d1, d2, d3] }
  | _ => none }
def leafMapRow : OpenClaim := { program := "ytoibkjggfkkdhaa", sum := "10f4916e7e40a9f965d24fdf56c12e69d6c5743d839d2552304523c678659304", func := "sluicegate/sluicegatelaw11.LeafMap", spec := "leafMap", inPlace := ["internal/bytealg.abigen_runtime_cmpstring"], unfollowed := true, recurses := true, apart := false }
def LeafMapSaid : Prop := leafMapRow.holds Try.pinned (OpenSpec.ofChange leafMapSpec)

/-- ITS FALSE NEIGHBOUR: 'it returns false'. Refute it at one input. -/
def leafMapWrong : ChangeSpec := { name := "leafMap", fn := fun _ => fun
  | [d1, d2, d3] => { results := [.lit (.bool false)], args := [d1, d2, d3] }
  | _ => none }
def LeafMapWrongFalsely : Prop := leafMapRow.holds Try.pinned (OpenSpec.ofChange leafMapWrong)

/-- 'sluicegatelaw11.LeafParts': WHATEVER THE INPUT: true; the input reads as it did. -/
def leafPartsSpec : ChangeSpec := { name := "leafParts", fn := fun _ => fun
  | [d1, d2, d3] => { results := [.lit (.bool true)], args := [d1, d2, d3] }
  | _ => none }
def leafPartsRow : OpenClaim := { program := "ytoibkjggfkkdhaa", sum := "10f4916e7e40a9f965d24fdf56c12e69d6c5743d839d2552304523c678659304", func := "sluicegate/sluicegatelaw11.LeafParts", spec := "leafParts", inPlace := ["internal/bytealg.abigen_runtime_cmpstring"], unfollowed := true, recurses := true, apart := false }
def LeafPartsSaid : Prop := leafPartsRow.holds Try.pinned (OpenSpec.ofChange leafPartsSpec)

/-- ITS FALSE NEIGHBOUR: 'it returns false'. Refute it at one input. -/
def leafPartsWrong : ChangeSpec := { name := "leafParts", fn := fun _ => fun
  | [d1, d2, d3] => { results := [.lit (.bool false)], args := [d1, d2, d3] }
  | _ => none }
def LeafPartsWrongFalsely : Prop := leafPartsRow.holds Try.pinned (OpenSpec.ofChange leafPartsWrong)

/- THE SECOND FORM. 'bulk': how many values and letters a reading holds, each counted each time it is reached (what is shared counts as often as it is met; a slice's spare places count too). A statement '..UptoSaid' is the law's where the arguments, and the package variables that the reading takes, are together of bulk at most 1048576: NARROWER than '..Said'. Prove '..Said' where nothing that the law and all that it calls make is longer than what came in: it says more and counts as full. Else prove '..UptoSaid'. A law counts once. -/
mutual
def uptoBulk {H : Type} : DataW H → Nat
  | .lit (.string bytes) => bytes.length + 1
  | .lit _ => 1
  | .nil => 1
  | .ptr d => uptoBulk d + 1
  | .slice elems spare => uptoBulkAll elems + uptoBulkAll spare + 1
  | .agg parts => uptoBulkAll parts + 1
  | .iface _ d => uptoBulk d + 1
  | .map entries => uptoBulkEntries entries + 1
  | .held _ => 1
def uptoBulkAll {H : Type} : List (DataW H) → Nat
  | [] => 0
  | d :: r => uptoBulk d + uptoBulkAll r
def uptoBulkEntries {H : Type} : List (Lit × DataW H) → Nat
  | [] => 0
  | x :: r => uptoBulkEntry x + uptoBulkEntries r
def uptoBulkEntry {H : Type} : Lit × DataW H → Nat
  | (.string bytes, d) => bytes.length + uptoBulk d + 1
  | (_, d) => uptoBulk d + 1
 end
def uptoSmall : (H : Type) → List (DataW H) → Bool := fun _ ds => decide (uptoBulkAll ds ≤ 1048576)
def OpenSpec.upto (s : _root_.Go.ChangeSpec) : _root_.Go.OpenSpec := { _root_.Go.OpenSpec.ofChange s with cond := some uptoSmall }

/-- 'sluicegatelaw11.LeafRights', WHERE WHAT IT READS IS OF BULK AT MOST 1048576: true; the input reads as it did. -/
def leafRightsUptoRow : OpenClaim := { program := "ytoibkjggfkkdhaa", sum := "10f4916e7e40a9f965d24fdf56c12e69d6c5743d839d2552304523c678659304", func := "sluicegate/sluicegatelaw11.LeafRights", spec := "leafRights", inPlace := ["internal/bytealg.abigen_runtime_cmpstring"], unfollowed := true, recurses := true, apart := false, narrowed := true }
def LeafRightsUptoSaid : Prop := leafRightsUptoRow.holds Try.pinned (OpenSpec.upto leafRightsSpec)

/-- 'sluicegatelaw11.LeafApplies', WHERE WHAT IT READS IS OF BULK AT MOST 1048576: true; the input reads as it did. -/
def leafAppliesUptoRow : OpenClaim := { program := "ytoibkjggfkkdhaa", sum := "10f4916e7e40a9f965d24fdf56c12e69d6c5743d839d2552304523c678659304", func := "sluicegate/sluicegatelaw11.LeafApplies", spec := "leafApplies", inPlace := ["internal/bytealg.abigen_runtime_cmpstring"], unfollowed := true, recurses := true, apart := false, narrowed := true }
def LeafAppliesUptoSaid : Prop := leafAppliesUptoRow.holds Try.pinned (OpenSpec.upto leafAppliesSpec)

/-- 'sluicegatelaw11.LeafMap', WHERE WHAT IT READS IS OF BULK AT MOST 1048576: true; the input reads as it did. -/
def leafMapUptoRow : OpenClaim := { program := "ytoibkjggfkkdhaa", sum := "10f4916e7e40a9f965d24fdf56c12e69d6c5743d839d2552304523c678659304", func := "sluicegate/sluicegatelaw11.LeafMap", spec := "leafMap", inPlace := ["internal/bytealg.abigen_runtime_cmpstring"], unfollowed := true, recurses := true, apart := false, narrowed := true }
def LeafMapUptoSaid : Prop := leafMapUptoRow.holds Try.pinned (OpenSpec.upto leafMapSpec)

/-- 'sluicegatelaw11.LeafParts', WHERE WHAT IT READS IS OF BULK AT MOST 1048576: true; the input reads as it did. -/
def leafPartsUptoRow : OpenClaim := { program := "ytoibkjggfkkdhaa", sum := "10f4916e7e40a9f965d24fdf56c12e69d6c5743d839d2552304523c678659304", func := "sluicegate/sluicegatelaw11.LeafParts", spec := "leafParts", inPlace := ["internal/bytealg.abigen_runtime_cmpstring"], unfollowed := true, recurses := true, apart := false, narrowed := true }
def LeafPartsUptoSaid : Prop := leafPartsUptoRow.holds Try.pinned (OpenSpec.upto leafPartsSpec)

end Rows
end Go.Proofs.Ytoibkjggfkkdhaa
