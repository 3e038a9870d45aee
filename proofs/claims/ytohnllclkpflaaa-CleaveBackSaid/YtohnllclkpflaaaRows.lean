/-
  No cell of these rows narrows 'for every input' (looked for: loops, veiled, ifaces, maps, wideKeys, modest, calm, conditions, laid).
  DERIVED. THE GIVEN ROWS OF THIS SEAT. 4 by the template 'for every input the law returns true; each argument reads behind the call as it read before'; 0 by the template 'total and deterministic' (their statements: YtohnllclkpflaaaTotals.lean).
  GIVEN WITH THE SEED: the statements are not yours to turn. If you find one false, say at which input.
  Laid BY PROGRAM, IN A SANDBOX (cutbox-rows.mjs): the forced cells as the released guide's own fill.sh prints them over the translation 013a0eb6bec9d5cd… (all of the seat's roots in one cut). By AI agents, Wed Nov 11 2026. No macro, syntax, notation, axiom, sorry.
-/
import Derived.Test.YtohnllclkpflaaaChecked
import GoSem.Claim
import GoSem.ClaimJoined
import GoSem.ClaimMapViews
import Derived.JoinedTies
import Derived.KernelRfl
namespace Go.Proofs.Ytohnllclkpflaaa
/- THE CELL 'sum', in the pinned program and in every row, IS THE sha256 OF THE DUMP (.gsa) THAT YtohnllclkpflaaaProg.lean LOADS. Nothing in Lean hashes anything: it is a label: what it is worth is what the hold of that sum in a sandbox is worth. -/
noncomputable def Try.pinned : Pinned := { name := "ytohnllclkpflaaa", sum := "013a0eb6bec9d5cd6188aae587ed146f1d89b4a3160403aad5a8fcbb75e5c153", checked := Try.checked }
namespace Rows
def none {H : Type} : Left H := { results := [], args := [] }

/-- 'sluicegatelaw14.CleaveHalves': WHATEVER THE INPUT: true; the input reads as it did. -/
def cleaveHalvesSpec : ChangeSpec := { name := "cleaveHalves", fn := fun _ => fun
  | [d1, d2, d3] => { results := [.lit (.bool true)], args := [d1, d2, d3] }
  | _ => none }
def cleaveHalvesRow : OpenClaim := { program := "ytohnllclkpflaaa", sum := "013a0eb6bec9d5cd6188aae587ed146f1d89b4a3160403aad5a8fcbb75e5c153", func := "sluicegate/sluicegatelaw14.CleaveHalves", spec := "cleaveHalves", inPlace := ["internal/bytealg.abigen_runtime_cmpstring"], unfollowed := true, recurses := true, apart := false }
def CleaveHalvesSaid : Prop := cleaveHalvesRow.holds Try.pinned (OpenSpec.ofChange cleaveHalvesSpec)

/-- ITS FALSE NEIGHBOUR: 'it returns false'. Refute it at one input. -/
def cleaveHalvesWrong : ChangeSpec := { name := "cleaveHalves", fn := fun _ => fun
  | [d1, d2, d3] => { results := [.lit (.bool false)], args := [d1, d2, d3] }
  | _ => none }
def CleaveHalvesWrongFalsely : Prop := cleaveHalvesRow.holds Try.pinned (OpenSpec.ofChange cleaveHalvesWrong)

/-- 'sluicegatelaw14.CleaveJoins': WHATEVER THE INPUT: true; the input reads as it did. -/
def cleaveJoinsSpec : ChangeSpec := { name := "cleaveJoins", fn := fun _ => fun
  | [d1, d2, d3, d4] => { results := [.lit (.bool true)], args := [d1, d2, d3, d4] }
  | _ => none }
def cleaveJoinsRow : OpenClaim := { program := "ytohnllclkpflaaa", sum := "013a0eb6bec9d5cd6188aae587ed146f1d89b4a3160403aad5a8fcbb75e5c153", func := "sluicegate/sluicegatelaw14.CleaveJoins", spec := "cleaveJoins", inPlace := ["internal/bytealg.abigen_runtime_cmpstring"], unfollowed := true, recurses := true, apart := false }
def CleaveJoinsSaid : Prop := cleaveJoinsRow.holds Try.pinned (OpenSpec.ofChange cleaveJoinsSpec)

/-- ITS FALSE NEIGHBOUR: 'it returns false'. Refute it at one input. -/
def cleaveJoinsWrong : ChangeSpec := { name := "cleaveJoins", fn := fun _ => fun
  | [d1, d2, d3, d4] => { results := [.lit (.bool false)], args := [d1, d2, d3, d4] }
  | _ => none }
def CleaveJoinsWrongFalsely : Prop := cleaveJoinsRow.holds Try.pinned (OpenSpec.ofChange cleaveJoinsWrong)

/-- 'sluicegatelaw14.CleaveBack': WHATEVER THE INPUT: true; the input reads as it did. -/
def cleaveBackSpec : ChangeSpec := { name := "cleaveBack", fn := fun _ => fun
  | [d1, d2, d3] => { results := [.lit (.bool true)], args := [d1, d2, d3] }
  | _ => none }
def cleaveBackRow : OpenClaim := { program := "ytohnllclkpflaaa", sum := "013a0eb6bec9d5cd6188aae587ed146f1d89b4a3160403aad5a8fcbb75e5c153", func := "sluicegate/sluicegatelaw14.CleaveBack", spec := "cleaveBack", inPlace := ["internal/bytealg.abigen_runtime_cmpstring"], unfollowed := true, recurses := true, apart := false }
def CleaveBackSaid : Prop := cleaveBackRow.holds Try.pinned (OpenSpec.ofChange cleaveBackSpec)

/-- ITS FALSE NEIGHBOUR: 'it returns false'. Refute it at one input. -/
def cleaveBackWrong : ChangeSpec := { name := "cleaveBack", fn := fun _ => fun
  | [d1, d2, d3] => { results := [.lit (.bool false)], args := [d1, d2, d3] }
  | _ => none }
def CleaveBackWrongFalsely : Prop := cleaveBackRow.holds Try.pinned (OpenSpec.ofChange cleaveBackWrong)

/-- 'sluicegatelaw14.CleaveRight': WHATEVER THE INPUT: true; the input reads as it did. -/
def cleaveRightSpec : ChangeSpec := { name := "cleaveRight", fn := fun _ => fun
  | [d1, d2, d3] => { results := [.lit (.bool true)], args := [d1, d2, d3] }
  | _ => none }
def cleaveRightRow : OpenClaim := { program := "ytohnllclkpflaaa", sum := "013a0eb6bec9d5cd6188aae587ed146f1d89b4a3160403aad5a8fcbb75e5c153", func := "sluicegate/sluicegatelaw14.CleaveRight", spec := "cleaveRight", inPlace := ["internal/bytealg.abigen_runtime_cmpstring"], unfollowed := true, recurses := true, apart := false }
def CleaveRightSaid : Prop := cleaveRightRow.holds Try.pinned (OpenSpec.ofChange cleaveRightSpec)

/-- ITS FALSE NEIGHBOUR: 'it returns false'. Refute it at one input. -/
def cleaveRightWrong : ChangeSpec := { name := "cleaveRight", fn := fun _ => fun
  | [d1, d2, d3] => { results := [.lit (.bool false)], args := [d1, d2, d3] }
  | _ => none }
def CleaveRightWrongFalsely : Prop := cleaveRightRow.holds Try.pinned (OpenSpec.ofChange cleaveRightWrong)

/- THE SECOND FORM. 'bulk': how many values and letters a reading holds, each counted each time it is reached (what is shared counts as often as it is met; a slice's spare places count too). A statement '..UptoSaid' is the law's where the arguments, and the package variables that the reading takes, are together of bulk at most 1048576: NARROWER than '..Said'. Prove '..Said' where nothing that the law and all that it calls make is longer than what came in: it says more and counts as full. Else prove '..UptoSaid'. A law counts once. -/
mutual
def uptoBulk {H : Type} : DataW H → Nat
  | .lit (.string bytes) => bytes.length + 1
  | .lit _ => 1
  | .nil => 1
  | .ptr d => uptoBulk d + 1
  | .slice elems spare => uptoBulkAll elems + uptoBulkAll spare + 1
  | .agg parts => uptoBulkAll parts + 1
  | .iface _ d => uptoBulk d + 1
  | .map entries => uptoBulkEntries entries + 1
  | .held _ => 1
def uptoBulkAll {H : Type} : List (DataW H) → Nat
  | [] => 0
  | d :: r => uptoBulk d + uptoBulkAll r
def uptoBulkEntries {H : Type} : List (Lit × DataW H) → Nat
  | [] => 0
  | x :: r => uptoBulkEntry x + uptoBulkEntries r
def uptoBulkEntry {H : Type} : Lit × DataW H → Nat
  | (.string bytes, d) => bytes.length + uptoBulk d + 1
  | (_, d) => uptoBulk d + 1
 end
def uptoSmall : (H : Type) → List (DataW H) → Bool := fun _ ds => decide (uptoBulkAll ds ≤ 1048576)
def OpenSpec.upto (s : _root_.Go.ChangeSpec) : _root_.Go.OpenSpec := { _root_.Go.OpenSpec.ofChange s with cond := some uptoSmall }

/-- 'sluicegatelaw14.CleaveHalves', WHERE WHAT IT READS IS OF BULK AT MOST 1048576: true; the input reads as it did. -/
def cleaveHalvesUptoRow : OpenClaim := { program := "ytohnllclkpflaaa", sum := "013a0eb6bec9d5cd6188aae587ed146f1d89b4a3160403aad5a8fcbb75e5c153", func := "sluicegate/sluicegatelaw14.CleaveHalves", spec := "cleaveHalves", inPlace := ["internal/bytealg.abigen_runtime_cmpstring"], unfollowed := true, recurses := true, apart := false, narrowed := true }
def CleaveHalvesUptoSaid : Prop := cleaveHalvesUptoRow.holds Try.pinned (OpenSpec.upto cleaveHalvesSpec)

/-- 'sluicegatelaw14.CleaveJoins', WHERE WHAT IT READS IS OF BULK AT MOST 1048576: true; the input reads as it did. -/
def cleaveJoinsUptoRow : OpenClaim := { program := "ytohnllclkpflaaa", sum := "013a0eb6bec9d5cd6188aae587ed146f1d89b4a3160403aad5a8fcbb75e5c153", func := "sluicegate/sluicegatelaw14.CleaveJoins", spec := "cleaveJoins", inPlace := ["internal/bytealg.abigen_runtime_cmpstring"], unfollowed := true, recurses := true, apart := false, narrowed := true }
def CleaveJoinsUptoSaid : Prop := cleaveJoinsUptoRow.holds Try.pinned (OpenSpec.upto cleaveJoinsSpec)

/-- 'sluicegatelaw14.CleaveBack', WHERE WHAT IT READS IS OF BULK AT MOST 1048576: true; the input reads as it did. -/
def cleaveBackUptoRow : OpenClaim := { program := "ytohnllclkpflaaa", sum := "013a0eb6bec9d5cd6188aae587ed146f1d89b4a3160403aad5a8fcbb75e5c153", func := "sluicegate/sluicegatelaw14.CleaveBack", spec := "cleaveBack", inPlace := ["internal/bytealg.abigen_runtime_cmpstring"], unfollowed := true, recurses := true, apart := false, narrowed := true }
def CleaveBackUptoSaid : Prop := cleaveBackUptoRow.holds Try.pinned (OpenSpec.upto cleaveBackSpec)

/-- 'sluicegatelaw14.CleaveRight', WHERE WHAT IT READS IS OF BULK AT MOST 1048576: true; the input reads as it did. -/
def cleaveRightUptoRow : OpenClaim := { program := "ytohnllclkpflaaa", sum := "013a0eb6bec9d5cd6188aae587ed146f1d89b4a3160403aad5a8fcbb75e5c153", func := "sluicegate/sluicegatelaw14.CleaveRight", spec := "cleaveRight", inPlace := ["internal/bytealg.abigen_runtime_cmpstring"], unfollowed := true, recurses := true, apart := false, narrowed := true }
def CleaveRightUptoSaid : Prop := cleaveRightUptoRow.holds Try.pinned (OpenSpec.upto cleaveRightSpec)

end Rows
end Go.Proofs.Ytohnllclkpflaaa
