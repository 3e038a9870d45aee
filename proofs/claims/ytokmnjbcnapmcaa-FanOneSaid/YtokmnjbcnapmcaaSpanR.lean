/-
  The document's Empty of layer lex.
-/
import Derived.Test.YtokmnjbcnapmcaaSpanD
namespace Go.Proofs.Ytokmnjbcnapmcaa
open Go.RowKit
namespace Lx

set_option maxHeartbeats 1000000 in
theorem REmpty_any (lo hi : ByteArray) (top : Bool) (w : World) (hl : lo.size ≤ maxLen) :
    Calls Try.prog 15 #[spanV lo hi top] w fun e w' => e = .returned (.bool (emptyB lo hi top)) ∧ Below w.heap.size w w' := by
  have HR := Lib.hid (empty_in lo hi top)
  go_enter Try.func15, Try.ntmps15
  go_wp2_with (go_at_call 14; refine (RIn_any _ _ _ _ _ ?_ ?_).mono ?_; assumption; assumption; rintro e w' ⟨rfl, hb⟩)
  go_ret
  exact ⟨ret_bool (by rw [HR.out]), ((Below.refl _ _).alloc (Nat.le_refl _) _).trans (hb.mono (by simp))⟩
end Lx
end Go.Proofs.Ytokmnjbcnapmcaa
