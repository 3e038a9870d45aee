/-
  Empty spans: no memory.
-/
import Derived.Test.YtlcdjbleeanpbaaOrdR
namespace Go.Proofs.Ytlcdjbleeanpbaa
open Go.RowKit
namespace Lx

def emptyB (lo hi : ByteArray) (top : Bool) : Bool := !top && decide (cmpB hi lo ≤ 0)

theorem empty_in (lo hi : ByteArray) (top : Bool) : emptyB lo hi top = !inB lo hi top lo := by
  have h0 : cmpB lo lo ≤ 0 := by unfold cmpB; rw [cmp_self]; omega
  have h1 : cmpB lo hi = -cmpB hi lo := cmp_neg lo.data.toList hi.data.toList
  unfold emptyB inB
  cases top
  · have e : decide (cmpB lo hi < 0) = !decide (cmpB hi lo ≤ 0) := by
      rw [Bool.eq_iff_iff]; simp; omega
    simp [h0, e]
  · simp [h0]
end Lx
end Go.Proofs.Ytlcdjbleeanpbaa
