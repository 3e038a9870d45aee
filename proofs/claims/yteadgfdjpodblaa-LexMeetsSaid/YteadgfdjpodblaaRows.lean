/-
  No cell of these rows narrows 'for every input' (looked for: loops, veiled, ifaces, maps, wideKeys, modest, calm, conditions, laid).
  DERIVED. THE GIVEN ROWS OF THIS SEAT. 4 by the template 'for every input the law returns true; each argument reads behind the call as it read before'; 0 by the template 'total and deterministic' (their statements: YteadgfdjpodblaaTotals.lean).
  GIVEN WITH THE SEED: the statements are not yours to turn. If you find one false, say at which input.
  Laid BY PROGRAM, IN A SANDBOX (cutbox-rows.mjs): the forced cells as the released guide's own fill.sh prints them over the translation baa768994e600f7e… (all of the seat's roots in one cut). By AI agents, Wed Nov 11 2026. No macro, syntax, notation, axiom, sorry.
-/
import Derived.Test.YteadgfdjpodblaaChecked
import GoSem.Claim
import GoSem.ClaimJoined
import GoSem.ClaimMapViews
import Derived.JoinedTies
import Derived.KernelRfl
namespace Go.Proofs.Yteadgfdjpodblaa
/- THE CELL 'sum', in the pinned program and in every row, IS THE sha256 OF THE DUMP (.gsa) THAT YteadgfdjpodblaaProg.lean LOADS. Nothing in Lean hashes anything: it is a label: what it is worth is what the hold of that sum in a sandbox is worth. -/
noncomputable def Try.pinned : Pinned := { name := "yteadgfdjpodblaa", sum := "baa768994e600f7eaf8faa309db49fd66e278c7c33886451733bbdfaa9e34aa0", checked := Try.checked }
namespace Rows
def none {H : Type} : Left H := { results := [], args := [] }

/-- 'sluicegatelaw01.LexCompares': WHATEVER THE INPUT: true; the input reads as it did. -/
def lexComparesSpec : ChangeSpec := { name := "lexCompares", fn := fun _ => fun
  | [d1, d2] => { results := [.lit (.bool true)], args := [d1, d2] }
  | _ => none }
def lexComparesRow : OpenClaim := { program := "yteadgfdjpodblaa", sum := "baa768994e600f7eaf8faa309db49fd66e278c7c33886451733bbdfaa9e34aa0", func := "sluicegate/sluicegatelaw01.LexCompares", spec := "lexCompares", inPlace := ["internal/bytealg.abigen_runtime_cmpstring"], apart := false }
def LexComparesSaid : Prop := lexComparesRow.holds Try.pinned (OpenSpec.ofChange lexComparesSpec)

/-- ITS FALSE NEIGHBOUR: 'it returns false'. Refute it at one input. -/
def lexComparesWrong : ChangeSpec := { name := "lexCompares", fn := fun _ => fun
  | [d1, d2] => { results := [.lit (.bool false)], args := [d1, d2] }
  | _ => none }
def LexComparesWrongFalsely : Prop := lexComparesRow.holds Try.pinned (OpenSpec.ofChange lexComparesWrong)

/-- 'sluicegatelaw01.LexRow': WHATEVER THE INPUT: true; the input reads as it did. -/
def lexRowSpec : ChangeSpec := { name := "lexRow", fn := fun _ => fun
  | [d1, d2, d3] => { results := [.lit (.bool true)], args := [d1, d2, d3] }
  | _ => none }
def lexRowRow : OpenClaim := { program := "yteadgfdjpodblaa", sum := "baa768994e600f7eaf8faa309db49fd66e278c7c33886451733bbdfaa9e34aa0", func := "sluicegate/sluicegatelaw01.LexRow", spec := "lexRow", inPlace := ["internal/bytealg.abigen_runtime_cmpstring"], apart := false }
def LexRowSaid : Prop := lexRowRow.holds Try.pinned (OpenSpec.ofChange lexRowSpec)

/-- ITS FALSE NEIGHBOUR: 'it returns false'. Refute it at one input. -/
def lexRowWrong : ChangeSpec := { name := "lexRow", fn := fun _ => fun
  | [d1, d2, d3] => { results := [.lit (.bool false)], args := [d1, d2, d3] }
  | _ => none }
def LexRowWrongFalsely : Prop := lexRowRow.holds Try.pinned (OpenSpec.ofChange lexRowWrong)

/-- 'sluicegatelaw01.LexSpans': WHATEVER THE INPUT: true; the input reads as it did. -/
def lexSpansSpec : ChangeSpec := { name := "lexSpans", fn := fun _ => fun
  | [d1, d2] => { results := [.lit (.bool true)], args := [d1, d2] }
  | _ => none }
def lexSpansRow : OpenClaim := { program := "yteadgfdjpodblaa", sum := "baa768994e600f7eaf8faa309db49fd66e278c7c33886451733bbdfaa9e34aa0", func := "sluicegate/sluicegatelaw01.LexSpans", spec := "lexSpans", inPlace := ["internal/bytealg.abigen_runtime_cmpstring"], apart := false }
def LexSpansSaid : Prop := lexSpansRow.holds Try.pinned (OpenSpec.ofChange lexSpansSpec)

/-- ITS FALSE NEIGHBOUR: 'it returns false'. Refute it at one input. -/
def lexSpansWrong : ChangeSpec := { name := "lexSpans", fn := fun _ => fun
  | [d1, d2] => { results := [.lit (.bool false)], args := [d1, d2] }
  | _ => none }
def LexSpansWrongFalsely : Prop := lexSpansRow.holds Try.pinned (OpenSpec.ofChange lexSpansWrong)

/-- 'sluicegatelaw01.LexMeets': WHATEVER THE INPUT: true; the input reads as it did. -/
def lexMeetsSpec : ChangeSpec := { name := "lexMeets", fn := fun _ => fun
  | [d1, d2, d3] => { results := [.lit (.bool true)], args := [d1, d2, d3] }
  | _ => none }
def lexMeetsRow : OpenClaim := { program := "yteadgfdjpodblaa", sum := "baa768994e600f7eaf8faa309db49fd66e278c7c33886451733bbdfaa9e34aa0", func := "sluicegate/sluicegatelaw01.LexMeets", spec := "lexMeets", inPlace := ["internal/bytealg.abigen_runtime_cmpstring"], apart := false }
def LexMeetsSaid : Prop := lexMeetsRow.holds Try.pinned (OpenSpec.ofChange lexMeetsSpec)

/-- ITS FALSE NEIGHBOUR: 'it returns false'. Refute it at one input. -/
def lexMeetsWrong : ChangeSpec := { name := "lexMeets", fn := fun _ => fun
  | [d1, d2, d3] => { results := [.lit (.bool false)], args := [d1, d2, d3] }
  | _ => none }
def LexMeetsWrongFalsely : Prop := lexMeetsRow.holds Try.pinned (OpenSpec.ofChange lexMeetsWrong)

/- THE SECOND FORM. 'bulk': how many values and letters a reading holds, each counted each time it is reached (what is shared counts as often as it is met; a slice's spare places count too). A statement '..UptoSaid' is the law's where the arguments, and the package variables that the reading takes, are together of bulk at most 1048576: NARROWER than '..Said'. Prove '..Said' where nothing that the law and all that it calls make is longer than what came in: it says more and counts as full. Else prove '..UptoSaid'. A law counts once. -/
mutual
def uptoBulk {H : Type} : DataW H → Nat
  | .lit (.string bytes) => bytes.length + 1
  | .lit _ => 1
  | .nil => 1
  | .ptr d => uptoBulk d + 1
  | .slice elems spare => uptoBulkAll elems + uptoBulkAll spare + 1
  | .agg parts => uptoBulkAll parts + 1
  | .iface _ d => uptoBulk d + 1
  | .map entries => uptoBulkEntries entries + 1
  | .held _ => 1
def uptoBulkAll {H : Type} : List (DataW H) → Nat
  | [] => 0
  | d :: r => uptoBulk d + uptoBulkAll r
def uptoBulkEntries {H : Type} : List (Lit × DataW H) → Nat
  | [] => 0
  | x :: r => uptoBulkEntry x + uptoBulkEntries r
def uptoBulkEntry {H : Type} : Lit × DataW H → Nat
  | (.string bytes, d) => bytes.length + uptoBulk d + 1
  | (_, d) => uptoBulk d + 1
 end
def uptoSmall : (H : Type) → List (DataW H) → Bool := fun _ ds => decide (uptoBulkAll ds ≤ 1048576)
def OpenSpec.upto (s : _root_.Go.ChangeSpec) : _root_.Go.OpenSpec := { _root_.Go.OpenSpec.ofChange s with cond := some uptoSmall }

/-- 'sluicegatelaw01.LexCompares', WHERE WHAT IT READS IS OF BULK AT MOST 1048576: true; the input reads as it did. -/
def lexComparesUptoRow : OpenClaim := { program := "yteadgfdjpodblaa", sum := "baa768994e600f7eaf8faa309db49fd66e278c7c33886451733bbdfaa9e34aa0", func := "sluicegate/sluicegatelaw01.LexCompares", spec := "lexCompares", inPlace := ["internal/bytealg.abigen_runtime_cmpstring"], apart := false, narrowed := true }
def LexComparesUptoSaid : Prop := lexComparesUptoRow.holds Try.pinned (OpenSpec.upto lexComparesSpec)

/-- 'sluicegatelaw01.LexRow', WHERE WHAT IT READS IS OF BULK AT MOST 1048576: true; the input reads as it did. -/
def lexRowUptoRow : OpenClaim := { program := "yteadgfdjpodblaa", sum := "baa768994e600f7eaf8faa309db49fd66e278c7c33886451733bbdfaa9e34aa0", func := "sluicegate/sluicegatelaw01.LexRow", spec := "lexRow", inPlace := ["internal/bytealg.abigen_runtime_cmpstring"], apart := false, narrowed := true }
def LexRowUptoSaid : Prop := lexRowUptoRow.holds Try.pinned (OpenSpec.upto lexRowSpec)

/-- 'sluicegatelaw01.LexSpans', WHERE WHAT IT READS IS OF BULK AT MOST 1048576: true; the input reads as it did. -/
def lexSpansUptoRow : OpenClaim := { program := "yteadgfdjpodblaa", sum := "baa768994e600f7eaf8faa309db49fd66e278c7c33886451733bbdfaa9e34aa0", func := "sluicegate/sluicegatelaw01.LexSpans", spec := "lexSpans", inPlace := ["internal/bytealg.abigen_runtime_cmpstring"], apart := false, narrowed := true }
def LexSpansUptoSaid : Prop := lexSpansUptoRow.holds Try.pinned (OpenSpec.upto lexSpansSpec)

/-- 'sluicegatelaw01.LexMeets', WHERE WHAT IT READS IS OF BULK AT MOST 1048576: true; the input reads as it did. -/
def lexMeetsUptoRow : OpenClaim := { program := "yteadgfdjpodblaa", sum := "baa768994e600f7eaf8faa309db49fd66e278c7c33886451733bbdfaa9e34aa0", func := "sluicegate/sluicegatelaw01.LexMeets", spec := "lexMeets", inPlace := ["internal/bytealg.abigen_runtime_cmpstring"], apart := false, narrowed := true }
def LexMeetsUptoSaid : Prop := lexMeetsUptoRow.holds Try.pinned (OpenSpec.upto lexMeetsSpec)

end Rows
end Go.Proofs.Yteadgfdjpodblaa
