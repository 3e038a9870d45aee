/-
  Texts put together; the bytes of a text.
-/
import Derived.Test.YteefkhgmcknbaaaProg
import Derived.Test.YteefkhgmcknbaaaCodeB
import Derived.Laws.Concat
import Derived.Lib.ConvBytes
import Derived.ProofKit
namespace Go.Proofs.Yteefkhgmcknbaaa
open Go.RowKit
namespace No
open Mem
open Wd (be val be_length val_be isW)
theorem strOf_app (a b : List UInt8) : strOf a ++ strOf b = strOf (a ++ b) := by
  unfold strOf
  apply ByteArray.ext
  simp [ByteArray.data_append]
/-- texts put together -/
theorem cat_any (a b : List UInt8) (h : a.length + b.length ≤ 10000000) (w : World) : (Op.stringOp .add (strOf a) (strOf b)).run Try.prog w = .ok (.string (strOf (a ++ b))) w := by
  rw [run_string_add_sum w _ _ (by rw [strOf_size, strOf_size]; omega), strOf_app]
/-- the bytes of a text, as a new slice -/
theorem conv_text {P : Program} {src dst e : TypeId} {u : TypeDesc} (hs : P.underlying src = some u) (hd : P.underlying dst = some (.slice e)) (he : P.underlying e = some (.int .u8)) (s : ByteArray) (w : World) :
    ∃ c w', (convert src dst (.string s)).run P w = .ok (.slice (some ⟨w.heap.size, 0, none⟩) s.size c) w' ∧ BL w' (some ⟨w.heap.size, 0, none⟩) s.data.toList ∧ Below w.heap.size w w' ∧ s.size ≤ c := by
  refine ⟨_, _, Lib.run_convert_string_bytes w src dst e s hs hd he, fun _ => ⟨w.heap.size, 0, rfl, fun i hi => ?_⟩, ⟨?_, ?_, ?_, ?_, fun k hk => Lib.bytesWorld_at_old w e s k hk⟩, grownCap_ge w s.size 0 e⟩
  · rw [Nat.zero_add, Lib.bytesWorld_cell w e s i (by simpa using hi)]
    simp only [byteV, List.getD, List.getElem?_eq_getElem hi, Option.getD_some]
  · rfl
  · rfl
  · rfl
  · rw [Lib.bytesWorld_size]
    omega
end No
end Go.Proofs.Yteefkhgmcknbaaa
