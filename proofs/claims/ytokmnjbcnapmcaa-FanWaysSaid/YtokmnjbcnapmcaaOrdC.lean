/-
  The order of keys: layer lex's In.
-/
import Derived.Test.YtokmnjbcnapmcaaCmpC
namespace Go.Proofs.Ytokmnjbcnapmcaa
open Go.RowKit
namespace Lx

set_option maxHeartbeats 1000000 in
theorem In_any (lo hi : ByteArray) (top : Bool) (key : ByteArray) (w : World) :
    Calls Try.prog 17 #[spanV lo hi top, .string key] w fun e w' => e = .returned (.bool (inB lo hi top key)) ∧ Below w.heap.size w w' := by
  by_cases h1 : cmpB lo key ≤ 0
  · cases top
    · have HR : Hid (inB lo hi false key = decide (cmpB key hi < 0)) := Lib.hid (by simp [inB, h1])
      go_enter Try.func17, Try.ntmps17
      go_wp2_with (go_at_call 16; refine (Compare_any _ _ _).mono ?_; rintro e w' ⟨rfl, rfl⟩)
      go_ret
      exact ⟨ret_bool (by rw [HR.out]), (Below.refl _ _).alloc (Nat.le_refl _) _⟩
    · have HR : Hid (inB lo hi true key = true) := Lib.hid (by simp [inB, h1])
      go_enter Try.func17, Try.ntmps17
      go_wp2_with (go_at_call 16; refine (Compare_any _ _ _).mono ?_; rintro e w' ⟨rfl, rfl⟩)
      go_ret
      exact ⟨ret_bool (by rw [HR.out]), (Below.refl _ _).alloc (Nat.le_refl _) _⟩
  · have HR : Hid (inB lo hi top key = false) := Lib.hid (by simp [inB, h1])
    have h1' : decide (cmpB lo key ≤ 0) = false := by simpa using h1
    go_enter Try.func17, Try.ntmps17
    go_wp2_with (go_at_call 16; refine (Compare_any _ _ _).mono ?_; rintro e w' ⟨rfl, rfl⟩)
    go_ret
    exact ⟨ret_bool (by rw [HR.out]), (Below.refl _ _).alloc (Nat.le_refl _) _⟩
end Lx
end Go.Proofs.Ytokmnjbcnapmcaa
