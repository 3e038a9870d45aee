/-
  Settings as eight ints. No program.
-/
import Derived.ProofKit
namespace Go.Proofs.Yteefkhgmcknbaaa
open Go.RowKit
namespace No
/-- settings -/
structure Cfg where
  blocks : Int
  bytes : Int
  frames : Int
  fan : Int
  buffer : Int
  leaf : Int
  key : Int
  val : Int
def cfCs (c : Cfg) : Array Value := #[.int .i64 c.blocks, .int .i64 c.bytes, .int .i64 c.frames, .int .i64 c.fan, .int .i64 c.buffer, .int .i64 c.leaf, .int .i64 c.key, .int .i64 c.val]
end No
end Go.Proofs.Yteefkhgmcknbaaa
