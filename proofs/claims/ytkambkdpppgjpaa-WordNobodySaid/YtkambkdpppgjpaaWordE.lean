/-
  WordNobody, walked.
-/
import Derived.Test.YtkambkdpppgjpaaWordAwake
import Derived.Lib.Strings
namespace Go.Proofs.Ytkambkdpppgjpaa
open Go.RowKit
namespace Wd
open Mem

set_option maxHeartbeats 2000000 in
theorem WordNobody_walk (n m : Int) (w : World) :
    Calls Try.prog 7 #[.int .i64 n, .int .i64 m] w fun e w' => e = .returned (.bool true) ∧ Below w.heap.size w w' := by
  have cA := fun w => Lib.hid (awake_any w)
  have c1 := fun w => Lib.hid (Zeros_nil n w)
  have c2 := fun w => Lib.hid (Num_nil n w)
  have c3 := fun w => Lib.hid (Raw_nil n w)
  have c4 := fun w => Lib.hid (Text_nil n m w)
  have c5 := fun w => Lib.hid (Left_nil w)
  have c6 := fun w => Lib.hid (Err_nil w)
  have c7 := fun w => Lib.hid (End_nil w)
  go_enter Try.func7, Try.ntmps7
  go_wp2_with (first
    | (go_at_call 21; refine (c1 _).out.mono ?_; rintro e w1 ⟨rfl, rfl⟩)
    | (go_at_call 15; refine (c2 _).out.mono ?_; rintro e w2 ⟨rfl, rfl⟩)
    | (go_at_call 17; refine (c3 _).out.mono ?_; rintro e w3 ⟨g, rfl, hb⟩; have HB3 := Lib.hid hb; clear hb)
    | (go_at_call 19; refine (c4 _).out.mono ?_; rintro e w4 ⟨rfl, rfl⟩)
    | (go_at_call 22; refine (c5 _).out.mono ?_; rintro e w5 ⟨rfl, rfl⟩)
    | (go_at_call 23; refine (c6 _).out.mono ?_; rintro e w6 ⟨rfl, rfl⟩)
    | (go_at_call 24; refine (c7 _).out.mono ?_; rintro e w7 ⟨rfl, rfl⟩)
    | (go_at_call 8; refine (cA _).out.mono ?_; rintro e w8 ⟨rfl, hb⟩; have HB8 := Lib.hid hb; clear hb))
  go_ret
  exact ⟨rfl, below_trans HB3.out HB8.out⟩
end Wd
end Go.Proofs.Ytkambkdpppgjpaa
