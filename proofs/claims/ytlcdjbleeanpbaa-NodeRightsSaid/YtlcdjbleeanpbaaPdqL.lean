/-
  slices.Sort of numbers: Len, nextPowerOfTwo.
-/
import Derived.Test.YtlcdjbleeanpbaaPdqW
namespace Go.Proofs.Ytlcdjbleeanpbaa
open Go.RowKit
namespace Pq
open Mem Hp
set_option maxRecDepth 100000 in
set_option maxHeartbeats 4000000 in
theorem Len_small (n : Nat) (h1 : 1 ≤ n) (hn : n ≤ 80) (w : World) : Calls Try.prog 75 #[.int .u64 (n : Int)] w fun e w' => ∃ z : Nat, e = .returned (.int .i64 (z : Int)) ∧ w = w' ∧ 1 ≤ z ∧ z ≤ 7 ∧ 2 ^ z ≤ 2 * n := by
  have h : n = 1 ∨ n = 2 ∨ n = 3 ∨ n = 4 ∨ n = 5 ∨ n = 6 ∨ n = 7 ∨ n = 8 ∨ n = 9 ∨ n = 10 ∨ n = 11 ∨ n = 12 ∨ n = 13 ∨ n = 14 ∨ n = 15 ∨ n = 16 ∨ n = 17 ∨ n = 18 ∨ n = 19 ∨ n = 20 ∨ n = 21 ∨ n = 22 ∨ n = 23 ∨ n = 24 ∨ n = 25 ∨ n = 26 ∨ n = 27 ∨ n = 28 ∨ n = 29 ∨ n = 30 ∨ n = 31 ∨ n = 32 ∨ n = 33 ∨ n = 34 ∨ n = 35 ∨ n = 36 ∨ n = 37 ∨ n = 38 ∨ n = 39 ∨ n = 40 ∨ n = 41 ∨ n = 42 ∨ n = 43 ∨ n = 44 ∨ n = 45 ∨ n = 46 ∨ n = 47 ∨ n = 48 ∨ n = 49 ∨ n = 50 ∨ n = 51 ∨ n = 52 ∨ n = 53 ∨ n = 54 ∨ n = 55 ∨ n = 56 ∨ n = 57 ∨ n = 58 ∨ n = 59 ∨ n = 60 ∨ n = 61 ∨ n = 62 ∨ n = 63 ∨ n = 64 ∨ n = 65 ∨ n = 66 ∨ n = 67 ∨ n = 68 ∨ n = 69 ∨ n = 70 ∨ n = 71 ∨ n = 72 ∨ n = 73 ∨ n = 74 ∨ n = 75 ∨ n = 76 ∨ n = 77 ∨ n = 78 ∨ n = 79 ∨ n = 80 := by omega
  clear h1 hn
  rcases h with rfl | rfl | rfl | rfl | rfl | rfl | rfl | rfl | rfl | rfl | rfl | rfl | rfl | rfl | rfl | rfl | rfl | rfl | rfl | rfl | rfl | rfl | rfl | rfl | rfl | rfl | rfl | rfl | rfl | rfl | rfl | rfl | rfl | rfl | rfl | rfl | rfl | rfl | rfl | rfl | rfl | rfl | rfl | rfl | rfl | rfl | rfl | rfl | rfl | rfl | rfl | rfl | rfl | rfl | rfl | rfl | rfl | rfl | rfl | rfl | rfl | rfl | rfl | rfl | rfl | rfl | rfl | rfl | rfl | rfl | rfl | rfl | rfl | rfl | rfl | rfl | rfl | rfl | rfl | rfl
  · go_enter Try.func75, Try.ntmps75
    go_wp2_with go_in
    go_ret
    exact ⟨1, by kernel_rfl, rfl, by decide, by decide, by decide⟩
  · go_enter Try.func75, Try.ntmps75
    go_wp2_with go_in
    go_ret
    exact ⟨2, by kernel_rfl, rfl, by decide, by decide, by decide⟩
  · go_enter Try.func75, Try.ntmps75
    go_wp2_with go_in
    go_ret
    exact ⟨2, by kernel_rfl, rfl, by decide, by decide, by decide⟩
  · go_enter Try.func75, Try.ntmps75
    go_wp2_with go_in
    go_ret
    exact ⟨3, by kernel_rfl, rfl, by decide, by decide, by decide⟩
  · go_enter Try.func75, Try.ntmps75
    go_wp2_with go_in
    go_ret
    exact ⟨3, by kernel_rfl, rfl, by decide, by decide, by decide⟩
  · go_enter Try.func75, Try.ntmps75
    go_wp2_with go_in
    go_ret
    exact ⟨3, by kernel_rfl, rfl, by decide, by decide, by decide⟩
  · go_enter Try.func75, Try.ntmps75
    go_wp2_with go_in
    go_ret
    exact ⟨3, by kernel_rfl, rfl, by decide, by decide, by decide⟩
  · go_enter Try.func75, Try.ntmps75
    go_wp2_with go_in
    go_ret
    exact ⟨4, by kernel_rfl, rfl, by decide, by decide, by decide⟩
  · go_enter Try.func75, Try.ntmps75
    go_wp2_with go_in
    go_ret
    exact ⟨4, by kernel_rfl, rfl, by decide, by decide, by decide⟩
  · go_enter Try.func75, Try.ntmps75
    go_wp2_with go_in
    go_ret
    exact ⟨4, by kernel_rfl, rfl, by decide, by decide, by decide⟩
  · go_enter Try.func75, Try.ntmps75
    go_wp2_with go_in
    go_ret
    exact ⟨4, by kernel_rfl, rfl, by decide, by decide, by decide⟩
  · go_enter Try.func75, Try.ntmps75
    go_wp2_with go_in
    go_ret
    exact ⟨4, by kernel_rfl, rfl, by decide, by decide, by decide⟩
  · go_enter Try.func75, Try.ntmps75
    go_wp2_with go_in
    go_ret
    exact ⟨4, by kernel_rfl, rfl, by decide, by decide, by decide⟩
  · go_enter Try.func75, Try.ntmps75
    go_wp2_with go_in
    go_ret
    exact ⟨4, by kernel_rfl, rfl, by decide, by decide, by decide⟩
  · go_enter Try.func75, Try.ntmps75
    go_wp2_with go_in
    go_ret
    exact ⟨4, by kernel_rfl, rfl, by decide, by decide, by decide⟩
  · go_enter Try.func75, Try.ntmps75
    go_wp2_with go_in
    go_ret
    exact ⟨5, by kernel_rfl, rfl, by decide, by decide, by decide⟩
  · go_enter Try.func75, Try.ntmps75
    go_wp2_with go_in
    go_ret
    exact ⟨5, by kernel_rfl, rfl, by decide, by decide, by decide⟩
  · go_enter Try.func75, Try.ntmps75
    go_wp2_with go_in
    go_ret
    exact ⟨5, by kernel_rfl, rfl, by decide, by decide, by decide⟩
  · go_enter Try.func75, Try.ntmps75
    go_wp2_with go_in
    go_ret
    exact ⟨5, by kernel_rfl, rfl, by decide, by decide, by decide⟩
  · go_enter Try.func75, Try.ntmps75
    go_wp2_with go_in
    go_ret
    exact ⟨5, by kernel_rfl, rfl, by decide, by decide, by decide⟩
  · go_enter Try.func75, Try.ntmps75
    go_wp2_with go_in
    go_ret
    exact ⟨5, by kernel_rfl, rfl, by decide, by decide, by decide⟩
  · go_enter Try.func75, Try.ntmps75
    go_wp2_with go_in
    go_ret
    exact ⟨5, by kernel_rfl, rfl, by decide, by decide, by decide⟩
  · go_enter Try.func75, Try.ntmps75
    go_wp2_with go_in
    go_ret
    exact ⟨5, by kernel_rfl, rfl, by decide, by decide, by decide⟩
  · go_enter Try.func75, Try.ntmps75
    go_wp2_with go_in
    go_ret
    exact ⟨5, by kernel_rfl, rfl, by decide, by decide, by decide⟩
  · go_enter Try.func75, Try.ntmps75
    go_wp2_with go_in
    go_ret
    exact ⟨5, by kernel_rfl, rfl, by decide, by decide, by decide⟩
  · go_enter Try.func75, Try.ntmps75
    go_wp2_with go_in
    go_ret
    exact ⟨5, by kernel_rfl, rfl, by decide, by decide, by decide⟩
  · go_enter Try.func75, Try.ntmps75
    go_wp2_with go_in
    go_ret
    exact ⟨5, by kernel_rfl, rfl, by decide, by decide, by decide⟩
  · go_enter Try.func75, Try.ntmps75
    go_wp2_with go_in
    go_ret
    exact ⟨5, by kernel_rfl, rfl, by decide, by decide, by decide⟩
  · go_enter Try.func75, Try.ntmps75
    go_wp2_with go_in
    go_ret
    exact ⟨5, by kernel_rfl, rfl, by decide, by decide, by decide⟩
  · go_enter Try.func75, Try.ntmps75
    go_wp2_with go_in
    go_ret
    exact ⟨5, by kernel_rfl, rfl, by decide, by decide, by decide⟩
  · go_enter Try.func75, Try.ntmps75
    go_wp2_with go_in
    go_ret
    exact ⟨5, by kernel_rfl, rfl, by decide, by decide, by decide⟩
  · go_enter Try.func75, Try.ntmps75
    go_wp2_with go_in
    go_ret
    exact ⟨6, by kernel_rfl, rfl, by decide, by decide, by decide⟩
  · go_enter Try.func75, Try.ntmps75
    go_wp2_with go_in
    go_ret
    exact ⟨6, by kernel_rfl, rfl, by decide, by decide, by decide⟩
  · go_enter Try.func75, Try.ntmps75
    go_wp2_with go_in
    go_ret
    exact ⟨6, by kernel_rfl, rfl, by decide, by decide, by decide⟩
  · go_enter Try.func75, Try.ntmps75
    go_wp2_with go_in
    go_ret
    exact ⟨6, by kernel_rfl, rfl, by decide, by decide, by decide⟩
  · go_enter Try.func75, Try.ntmps75
    go_wp2_with go_in
    go_ret
    exact ⟨6, by kernel_rfl, rfl, by decide, by decide, by decide⟩
  · go_enter Try.func75, Try.ntmps75
    go_wp2_with go_in
    go_ret
    exact ⟨6, by kernel_rfl, rfl, by decide, by decide, by decide⟩
  · go_enter Try.func75, Try.ntmps75
    go_wp2_with go_in
    go_ret
    exact ⟨6, by kernel_rfl, rfl, by decide, by decide, by decide⟩
  · go_enter Try.func75, Try.ntmps75
    go_wp2_with go_in
    go_ret
    exact ⟨6, by kernel_rfl, rfl, by decide, by decide, by decide⟩
  · go_enter Try.func75, Try.ntmps75
    go_wp2_with go_in
    go_ret
    exact ⟨6, by kernel_rfl, rfl, by decide, by decide, by decide⟩
  · go_enter Try.func75, Try.ntmps75
    go_wp2_with go_in
    go_ret
    exact ⟨6, by kernel_rfl, rfl, by decide, by decide, by decide⟩
  · go_enter Try.func75, Try.ntmps75
    go_wp2_with go_in
    go_ret
    exact ⟨6, by kernel_rfl, rfl, by decide, by decide, by decide⟩
  · go_enter Try.func75, Try.ntmps75
    go_wp2_with go_in
    go_ret
    exact ⟨6, by kernel_rfl, rfl, by decide, by decide, by decide⟩
  · go_enter Try.func75, Try.ntmps75
    go_wp2_with go_in
    go_ret
    exact ⟨6, by kernel_rfl, rfl, by decide, by decide, by decide⟩
  · go_enter Try.func75, Try.ntmps75
    go_wp2_with go_in
    go_ret
    exact ⟨6, by kernel_rfl, rfl, by decide, by decide, by decide⟩
  · go_enter Try.func75, Try.ntmps75
    go_wp2_with go_in
    go_ret
    exact ⟨6, by kernel_rfl, rfl, by decide, by decide, by decide⟩
  · go_enter Try.func75, Try.ntmps75
    go_wp2_with go_in
    go_ret
    exact ⟨6, by kernel_rfl, rfl, by decide, by decide, by decide⟩
  · go_enter Try.func75, Try.ntmps75
    go_wp2_with go_in
    go_ret
    exact ⟨6, by kernel_rfl, rfl, by decide, by decide, by decide⟩
  · go_enter Try.func75, Try.ntmps75
    go_wp2_with go_in
    go_ret
    exact ⟨6, by kernel_rfl, rfl, by decide, by decide, by decide⟩
  · go_enter Try.func75, Try.ntmps75
    go_wp2_with go_in
    go_ret
    exact ⟨6, by kernel_rfl, rfl, by decide, by decide, by decide⟩
  · go_enter Try.func75, Try.ntmps75
    go_wp2_with go_in
    go_ret
    exact ⟨6, by kernel_rfl, rfl, by decide, by decide, by decide⟩
  · go_enter Try.func75, Try.ntmps75
    go_wp2_with go_in
    go_ret
    exact ⟨6, by kernel_rfl, rfl, by decide, by decide, by decide⟩
  · go_enter Try.func75, Try.ntmps75
    go_wp2_with go_in
    go_ret
    exact ⟨6, by kernel_rfl, rfl, by decide, by decide, by decide⟩
  · go_enter Try.func75, Try.ntmps75
    go_wp2_with go_in
    go_ret
    exact ⟨6, by kernel_rfl, rfl, by decide, by decide, by decide⟩
  · go_enter Try.func75, Try.ntmps75
    go_wp2_with go_in
    go_ret
    exact ⟨6, by kernel_rfl, rfl, by decide, by decide, by decide⟩
  · go_enter Try.func75, Try.ntmps75
    go_wp2_with go_in
    go_ret
    exact ⟨6, by kernel_rfl, rfl, by decide, by decide, by decide⟩
  · go_enter Try.func75, Try.ntmps75
    go_wp2_with go_in
    go_ret
    exact ⟨6, by kernel_rfl, rfl, by decide, by decide, by decide⟩
  · go_enter Try.func75, Try.ntmps75
    go_wp2_with go_in
    go_ret
    exact ⟨6, by kernel_rfl, rfl, by decide, by decide, by decide⟩
  · go_enter Try.func75, Try.ntmps75
    go_wp2_with go_in
    go_ret
    exact ⟨6, by kernel_rfl, rfl, by decide, by decide, by decide⟩
  · go_enter Try.func75, Try.ntmps75
    go_wp2_with go_in
    go_ret
    exact ⟨6, by kernel_rfl, rfl, by decide, by decide, by decide⟩
  · go_enter Try.func75, Try.ntmps75
    go_wp2_with go_in
    go_ret
    exact ⟨6, by kernel_rfl, rfl, by decide, by decide, by decide⟩
  · go_enter Try.func75, Try.ntmps75
    go_wp2_with go_in
    go_ret
    exact ⟨6, by kernel_rfl, rfl, by decide, by decide, by decide⟩
  · go_enter Try.func75, Try.ntmps75
    go_wp2_with go_in
    go_ret
    exact ⟨6, by kernel_rfl, rfl, by decide, by decide, by decide⟩
  · go_enter Try.func75, Try.ntmps75
    go_wp2_with go_in
    go_ret
    exact ⟨7, by kernel_rfl, rfl, by decide, by decide, by decide⟩
  · go_enter Try.func75, Try.ntmps75
    go_wp2_with go_in
    go_ret
    exact ⟨7, by kernel_rfl, rfl, by decide, by decide, by decide⟩
  · go_enter Try.func75, Try.ntmps75
    go_wp2_with go_in
    go_ret
    exact ⟨7, by kernel_rfl, rfl, by decide, by decide, by decide⟩
  · go_enter Try.func75, Try.ntmps75
    go_wp2_with go_in
    go_ret
    exact ⟨7, by kernel_rfl, rfl, by decide, by decide, by decide⟩
  · go_enter Try.func75, Try.ntmps75
    go_wp2_with go_in
    go_ret
    exact ⟨7, by kernel_rfl, rfl, by decide, by decide, by decide⟩
  · go_enter Try.func75, Try.ntmps75
    go_wp2_with go_in
    go_ret
    exact ⟨7, by kernel_rfl, rfl, by decide, by decide, by decide⟩
  · go_enter Try.func75, Try.ntmps75
    go_wp2_with go_in
    go_ret
    exact ⟨7, by kernel_rfl, rfl, by decide, by decide, by decide⟩
  · go_enter Try.func75, Try.ntmps75
    go_wp2_with go_in
    go_ret
    exact ⟨7, by kernel_rfl, rfl, by decide, by decide, by decide⟩
  · go_enter Try.func75, Try.ntmps75
    go_wp2_with go_in
    go_ret
    exact ⟨7, by kernel_rfl, rfl, by decide, by decide, by decide⟩
  · go_enter Try.func75, Try.ntmps75
    go_wp2_with go_in
    go_ret
    exact ⟨7, by kernel_rfl, rfl, by decide, by decide, by decide⟩
  · go_enter Try.func75, Try.ntmps75
    go_wp2_with go_in
    go_ret
    exact ⟨7, by kernel_rfl, rfl, by decide, by decide, by decide⟩
  · go_enter Try.func75, Try.ntmps75
    go_wp2_with go_in
    go_ret
    exact ⟨7, by kernel_rfl, rfl, by decide, by decide, by decide⟩
  · go_enter Try.func75, Try.ntmps75
    go_wp2_with go_in
    go_ret
    exact ⟨7, by kernel_rfl, rfl, by decide, by decide, by decide⟩
  · go_enter Try.func75, Try.ntmps75
    go_wp2_with go_in
    go_ret
    exact ⟨7, by kernel_rfl, rfl, by decide, by decide, by decide⟩
  · go_enter Try.func75, Try.ntmps75
    go_wp2_with go_in
    go_ret
    exact ⟨7, by kernel_rfl, rfl, by decide, by decide, by decide⟩
  · go_enter Try.func75, Try.ntmps75
    go_wp2_with go_in
    go_ret
    exact ⟨7, by kernel_rfl, rfl, by decide, by decide, by decide⟩
  · go_enter Try.func75, Try.ntmps75
    go_wp2_with go_in
    go_ret
    exact ⟨7, by kernel_rfl, rfl, by decide, by decide, by decide⟩
set_option maxRecDepth 100000 in
set_option maxHeartbeats 4000000 in
theorem nextPow_any (n : Nat) (h1 : 1 ≤ n) (hn : n ≤ 80) (w : World) : Calls Try.prog 90 #[.int .i64 (n : Int)] w fun e w' => ∃ M : Nat, e = .returned (.int .u64 (M : Int)) ∧ w = w' ∧ 1 ≤ M ∧ M ≤ 2 * n := by
  have cL := fun w => Lib.hid (Len_small n h1 hn w)
  have hw1 : IntKind.u64.wrap (n : Int) = (n : Int) := by rw [IntKind.wrap_u64]; omega
  clear h1 hn
  go_enter Try.func90, Try.ntmps90
  go_wp2_with (go_at_call 75; refine (cL _).out.mono ?_; rintro e w' ⟨z, rfl, rfl, hz1, hz2, hz3⟩; obtain rfl | rfl | rfl | rfl | rfl | rfl | rfl : z = 1 ∨ z = 2 ∨ z = 3 ∨ z = 4 ∨ z = 5 ∨ z = 6 ∨ z = 7 := by omega)
  · go_ret
    exact ⟨2, rfl, rfl, by decide, by omega⟩
  · go_ret
    exact ⟨4, rfl, rfl, by decide, by omega⟩
  · go_ret
    exact ⟨8, rfl, rfl, by decide, by omega⟩
  · go_ret
    exact ⟨16, rfl, rfl, by decide, by omega⟩
  · go_ret
    exact ⟨32, rfl, rfl, by decide, by omega⟩
  · go_ret
    exact ⟨64, rfl, rfl, by decide, by omega⟩
  · go_ret
    exact ⟨128, rfl, rfl, by decide, by omega⟩
end Pq
end Go.Proofs.Ytlcdjbleeanpbaa
