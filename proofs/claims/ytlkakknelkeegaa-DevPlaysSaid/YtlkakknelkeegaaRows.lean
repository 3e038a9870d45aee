/-
  No cell of these rows narrows 'for every input' (looked for: loops, veiled, ifaces, maps, wideKeys, modest, calm, conditions, laid).
  DERIVED. THE GIVEN ROWS OF THIS SEAT. 4 by the template 'for every input the law returns true; each argument reads behind the call as it read before'; 0 by the template 'total and deterministic' (their statements: YtlkakknelkeegaaTotals.lean).
  GIVEN WITH THE SEED: the statements are not yours to turn. If you find one false, say at which input.
  Laid BY PROGRAM, IN A SANDBOX (cutbox-rows.mjs): the forced cells as the released guide's own fill.sh prints them over the translation 019b88024b884cd1… (all of the seat's roots in one cut). By AI agents, Wed Nov 11 2026. No macro, syntax, notation, axiom, sorry.
-/
import Derived.Test.YtlkakknelkeegaaChecked
import GoSem.Claim
import GoSem.ClaimJoined
import GoSem.ClaimMapViews
import Derived.JoinedTies
import Derived.KernelRfl
namespace Go.Proofs.Ytlkakknelkeegaa
/- THE CELL 'sum', in the pinned program and in every row, IS THE sha256 OF THE DUMP (.gsa) THAT YtlkakknelkeegaaProg.lean LOADS. Nothing in Lean hashes anything: it is a label: what it is worth is what the hold of that sum in a sandbox is worth. -/
noncomputable def Try.pinned : Pinned := { name := "ytlkakknelkeegaa", sum := "019b88024b884cd1f4f38f16fadb9ed1e25d4030336e88ea4bc6890097885555", checked := Try.checked }
namespace Rows
def none {H : Type} : Left H := { results := [], args := [] }

/-- 'sluicegatelaw06.DevPlays': WHATEVER THE INPUT: true; the input reads as it did. -/
def devPlaysSpec : ChangeSpec := { name := "devPlays", fn := fun _ => fun
  | [d1, d2, d3] => { results := [.lit (.bool true)], args := [d1, d2, d3] }
  | _ => none }
def devPlaysRow : OpenClaim := { program := "ytlkakknelkeegaa", sum := "019b88024b884cd1f4f38f16fadb9ed1e25d4030336e88ea4bc6890097885555", func := "sluicegate/sluicegatelaw06.DevPlays", spec := "devPlays", apart := false }
def DevPlaysSaid : Prop := devPlaysRow.holds Try.pinned (OpenSpec.ofChange devPlaysSpec)

/-- ITS FALSE NEIGHBOUR: 'it returns false'. Refute it at one input. -/
def devPlaysWrong : ChangeSpec := { name := "devPlays", fn := fun _ => fun
  | [d1, d2, d3] => { results := [.lit (.bool false)], args := [d1, d2, d3] }
  | _ => none }
def DevPlaysWrongFalsely : Prop := devPlaysRow.holds Try.pinned (OpenSpec.ofChange devPlaysWrong)

/-- 'sluicegatelaw06.DevFrom': WHATEVER THE INPUT: true; the input reads as it did. -/
def devFromSpec : ChangeSpec := { name := "devFrom", fn := fun _ => fun
  | [d1, d2, d3] => { results := [.lit (.bool true)], args := [d1, d2, d3] }
  | _ => none }
def devFromRow : OpenClaim := { program := "ytlkakknelkeegaa", sum := "019b88024b884cd1f4f38f16fadb9ed1e25d4030336e88ea4bc6890097885555", func := "sluicegate/sluicegatelaw06.DevFrom", spec := "devFrom", apart := false }
def DevFromSaid : Prop := devFromRow.holds Try.pinned (OpenSpec.ofChange devFromSpec)

/-- ITS FALSE NEIGHBOUR: 'it returns false'. Refute it at one input. -/
def devFromWrong : ChangeSpec := { name := "devFrom", fn := fun _ => fun
  | [d1, d2, d3] => { results := [.lit (.bool false)], args := [d1, d2, d3] }
  | _ => none }
def DevFromWrongFalsely : Prop := devFromRow.holds Try.pinned (OpenSpec.ofChange devFromWrong)

/-- 'sluicegatelaw06.DevWrites': WHATEVER THE INPUT: true; the input reads as it did. -/
def devWritesSpec : ChangeSpec := { name := "devWrites", fn := fun _ => fun
  | [d1, d2] => { results := [.lit (.bool true)], args := [d1, d2] }
  | _ => none }
def devWritesRow : OpenClaim := { program := "ytlkakknelkeegaa", sum := "019b88024b884cd1f4f38f16fadb9ed1e25d4030336e88ea4bc6890097885555", func := "sluicegate/sluicegatelaw06.DevWrites", spec := "devWrites", apart := false }
def DevWritesSaid : Prop := devWritesRow.holds Try.pinned (OpenSpec.ofChange devWritesSpec)

/-- ITS FALSE NEIGHBOUR: 'it returns false'. Refute it at one input. -/
def devWritesWrong : ChangeSpec := { name := "devWrites", fn := fun _ => fun
  | [d1, d2] => { results := [.lit (.bool false)], args := [d1, d2] }
  | _ => none }
def DevWritesWrongFalsely : Prop := devWritesRow.holds Try.pinned (OpenSpec.ofChange devWritesWrong)

/-- 'sluicegatelaw06.DevNobody': WHATEVER THE INPUT: true; the input reads as it did. -/
def devNobodySpec : ChangeSpec := { name := "devNobody", fn := fun _ => fun
  | [d1, d2] => { results := [.lit (.bool true)], args := [d1, d2] }
  | _ => none }
def devNobodyRow : OpenClaim := { program := "ytlkakknelkeegaa", sum := "019b88024b884cd1f4f38f16fadb9ed1e25d4030336e88ea4bc6890097885555", func := "sluicegate/sluicegatelaw06.DevNobody", spec := "devNobody", apart := false }
def DevNobodySaid : Prop := devNobodyRow.holds Try.pinned (OpenSpec.ofChange devNobodySpec)

/-- ITS FALSE NEIGHBOUR: 'it returns false'. Refute it at one input. -/
def devNobodyWrong : ChangeSpec := { name := "devNobody", fn := fun _ => fun
  | [d1, d2] => { results := [.lit (.bool false)], args := [d1, d2] }
  | _ => none }
def DevNobodyWrongFalsely : Prop := devNobodyRow.holds Try.pinned (OpenSpec.ofChange devNobodyWrong)

/- THE SECOND FORM. 'bulk': how many values and letters a reading holds, each counted each time it is reached (what is shared counts as often as it is met; a slice's spare places count too). A statement '..UptoSaid' is the law's where the arguments, and the package variables that the reading takes, are together of bulk at most 1048576: NARROWER than '..Said'. Prove '..Said' where nothing that the law and all that it calls make is longer than what came in: it says more and counts as full. Else prove '..UptoSaid'. A law counts once. -/
mutual
def uptoBulk {H : Type} : DataW H → Nat
  | .lit (.string bytes) => bytes.length + 1
  | .lit _ => 1
  | .nil => 1
  | .ptr d => uptoBulk d + 1
  | .slice elems spare => uptoBulkAll elems + uptoBulkAll spare + 1
  | .agg parts => uptoBulkAll parts + 1
  | .iface _ d => uptoBulk d + 1
  | .map entries => uptoBulkEntries entries + 1
  | .held _ => 1
def uptoBulkAll {H : Type} : List (DataW H) → Nat
  | [] => 0
  | d :: r => uptoBulk d + uptoBulkAll r
def uptoBulkEntries {H : Type} : List (Lit × DataW H) → Nat
  | [] => 0
  | x :: r => uptoBulkEntry x + uptoBulkEntries r
def uptoBulkEntry {H : Type} : Lit × DataW H → Nat
  | (.string bytes, d) => bytes.length + uptoBulk d + 1
  | (_, d) => uptoBulk d + 1
 end
def uptoSmall : (H : Type) → List (DataW H) → Bool := fun _ ds => decide (uptoBulkAll ds ≤ 1048576)
def OpenSpec.upto (s : _root_.Go.ChangeSpec) : _root_.Go.OpenSpec := { _root_.Go.OpenSpec.ofChange s with cond := some uptoSmall }

/-- 'sluicegatelaw06.DevPlays', WHERE WHAT IT READS IS OF BULK AT MOST 1048576: true; the input reads as it did. -/
def devPlaysUptoRow : OpenClaim := { program := "ytlkakknelkeegaa", sum := "019b88024b884cd1f4f38f16fadb9ed1e25d4030336e88ea4bc6890097885555", func := "sluicegate/sluicegatelaw06.DevPlays", spec := "devPlays", apart := false, narrowed := true }
def DevPlaysUptoSaid : Prop := devPlaysUptoRow.holds Try.pinned (OpenSpec.upto devPlaysSpec)

/-- 'sluicegatelaw06.DevFrom', WHERE WHAT IT READS IS OF BULK AT MOST 1048576: true; the input reads as it did. -/
def devFromUptoRow : OpenClaim := { program := "ytlkakknelkeegaa", sum := "019b88024b884cd1f4f38f16fadb9ed1e25d4030336e88ea4bc6890097885555", func := "sluicegate/sluicegatelaw06.DevFrom", spec := "devFrom", apart := false, narrowed := true }
def DevFromUptoSaid : Prop := devFromUptoRow.holds Try.pinned (OpenSpec.upto devFromSpec)

/-- 'sluicegatelaw06.DevWrites', WHERE WHAT IT READS IS OF BULK AT MOST 1048576: true; the input reads as it did. -/
def devWritesUptoRow : OpenClaim := { program := "ytlkakknelkeegaa", sum := "019b88024b884cd1f4f38f16fadb9ed1e25d4030336e88ea4bc6890097885555", func := "sluicegate/sluicegatelaw06.DevWrites", spec := "devWrites", apart := false, narrowed := true }
def DevWritesUptoSaid : Prop := devWritesUptoRow.holds Try.pinned (OpenSpec.upto devWritesSpec)

/-- 'sluicegatelaw06.DevNobody', WHERE WHAT IT READS IS OF BULK AT MOST 1048576: true; the input reads as it did. -/
def devNobodyUptoRow : OpenClaim := { program := "ytlkakknelkeegaa", sum := "019b88024b884cd1f4f38f16fadb9ed1e25d4030336e88ea4bc6890097885555", func := "sluicegate/sluicegatelaw06.DevNobody", spec := "devNobody", apart := false, narrowed := true }
def DevNobodyUptoSaid : Prop := devNobodyUptoRow.holds Try.pinned (OpenSpec.upto devNobodySpec)

end Rows
end Go.Proofs.Ytlkakknelkeegaa
