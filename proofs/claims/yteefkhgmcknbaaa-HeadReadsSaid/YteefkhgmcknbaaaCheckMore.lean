/-
  Contracts of layer check: More; the document's More and Sum.
-/
import Derived.Test.YteefkhgmcknbaaaProg
import Derived.Test.YteefkhgmcknbaaaCheckPlain
import Derived.Test.YteefkhgmcknbaaaBytes
import Derived.WalkKit
import Derived.WalkLawsBesides
import Derived.KernelRfl
import Derived.Lib.Hide
namespace Go.Proofs.Yteefkhgmcknbaaa
open Go.RowKit
namespace Ck
open Mem

theorem ret_u32 {a b : Int} (h : a = b) : Ending.returned (.int .u32 a) = .returned (.int .u32 b) := by rw [h]

set_option maxHeartbeats 1000000 in
theorem More_any (s : Nat) (p : Option Addr) (c : Nat) (l : List UInt8) (w : World) (h : BL w p l) (hl : l.length ≤ 140737488355328) (hs : s < 4294967296) :
    Calls Try.prog 30 #[.int .u32 (s : Int), .slice p l.length c] w fun e w' => e = .returned (.int .u32 (more s l : Int)) ∧ w = w' := by
  obtain ⟨n, hn⟩ : ∃ n, n = l.length := ⟨_, rfl⟩
  have HN := Lib.hid hn
  rw [← hn] at hl ⊢
  have HB := Lib.hid h
  clear hn h
  go_enter Try.func30, Try.ntmps30
  go_wp2
  go_loop [5, 6, 17] (fun x y i => ∃ (k u v : Nat), k ≤ n ∧ i = .int .i64 k ∧ x = .int .u32 (u : Int) ∧ y = .int .u32 (v : Int) ∧ u < 65521 ∧ v < 65521 ∧ Hid (u = (stp (s % 65536, s / 65536) (l.take k)).1 % 65521) ∧ Hid (v = (stp (s % 65536, s / 65536) (l.take k)).2 % 65521)) (fun _ _ i => n - (intOf i).toNat)
  case atStart => exact ⟨0, s % 65536 % 65521, s / 65536 % 65521, Nat.zero_le _, rfl, by congr 1, by congr 1, by omega, by omega, by unfold Hid; simp, by unfold Hid; simp⟩
  case round =>
    obtain ⟨k, u, v, hk, rfl, rfl, rfl, hu, hv, HU, HV⟩ := hrel
    by_cases hlt : k < n
    · obtain ⟨b, o, rfl, hc⟩ := HB.out.at_ (show k < l.length by rw [← HN.out]; exact hlt)
      obtain ⟨y, hy⟩ : ∃ y, y = (l[k]'(by rw [← HN.out]; exact hlt)).toNat := ⟨_, rfl⟩
      have hyl : y < 256 := by rw [hy]; exact UInt8.toNat_lt _
      rw [← hy] at hc
      have HY := Lib.hid hy
      clear hy
      go_wp2
      have h1 := stp_take (s % 65536, s / 65536) l (show k < l.length by rw [← HN.out]; exact hlt)
      rw [← HY.out] at h1
      exact ⟨⟨k + 1, (u + y) % 65521, (v + (u + y) % 65521) % 65521, hlt, by go_num, by go_num, by go_num, by omega, by omega, by unfold Hid; rw [h1]; have := HU.out; omega, by unfold Hid; rw [h1]; have := HU.out; have := HV.out; omega⟩, by simp [intOf]; omega⟩
    · obtain rfl : k = n := by omega
      go_wp2
      go_ret
      have hall : l.take k = l := List.take_of_length_le (by rw [HN.out]; exact Nat.le_refl _)
      rw [hall] at HU HV
      exact ⟨ret_u32 (by unfold more outV; rw [← HU.out, ← HV.out]; omega), rfl⟩

set_option maxHeartbeats 1000000 in
theorem RMore_any (s : Nat) (p : Option Addr) (c : Nat) (l : List UInt8) (w : World) (h : BL w p l) (hl : l.length ≤ 20000) (hs : s < 4294967296) :
    Calls Try.prog 39 #[.int .u32 (s : Int), .slice p l.length c] w fun e w' => e = .returned (.int .u32 (more s l : Int)) ∧ w = w' := by
  obtain ⟨n, hn⟩ : ∃ n, n = l.length := ⟨_, rfl⟩
  have HN := Lib.hid hn
  rw [← hn] at hl ⊢
  have HB := Lib.hid h
  clear hn h
  go_enter Try.func39, Try.ntmps39
  go_wp2
  go_loop [5, 6, 7] (fun x y i => ∃ (k u v : Nat), k ≤ n ∧ i = .int .i64 k ∧ x = .int .u64 (u : Int) ∧ y = .int .u64 (v : Int) ∧ u ≤ 65535 + 255 * k ∧ v ≤ 65535 + k * 5200000 ∧ Hid (u = (stp (s % 65536, s / 65536) (l.take k)).1) ∧ Hid (v = (stp (s % 65536, s / 65536) (l.take k)).2)) (fun _ _ i => n - (intOf i).toNat)
  case atStart => exact ⟨0, s % 65536, s / 65536, Nat.zero_le _, rfl, by congr 1, by congr 1, by omega, by omega, by unfold Hid; simp, by unfold Hid; simp⟩
  case round =>
    obtain ⟨k, u, v, hk, rfl, rfl, rfl, hu, hv, HU, HV⟩ := hrel
    by_cases hlt : k < n
    · obtain ⟨b, o, rfl, hc⟩ := HB.out.at_ (show k < l.length by rw [← HN.out]; exact hlt)
      obtain ⟨y, hy⟩ : ∃ y, y = (l[k]'(by rw [← HN.out]; exact hlt)).toNat := ⟨_, rfl⟩
      have hyl : y < 256 := by rw [hy]; exact UInt8.toNat_lt _
      rw [← hy] at hc
      have HY := Lib.hid hy
      clear hy
      go_wp2
      have h1 := stp_take (s % 65536, s / 65536) l (show k < l.length by rw [← HN.out]; exact hlt)
      rw [← HY.out] at h1
      exact ⟨⟨k + 1, u + y, v + (u + y), hlt, by go_num, by go_num, by go_num, by omega, by omega, by unfold Hid; rw [h1]; have := HU.out; omega, by unfold Hid; rw [h1]; have := HU.out; have := HV.out; omega⟩, by simp [intOf]; omega⟩
    · obtain rfl : k = n := by omega
      go_wp2
      go_ret
      have hall : l.take k = l := List.take_of_length_le (by rw [HN.out]; exact Nat.le_refl _)
      rw [hall] at HU HV
      exact ⟨ret_u32 (by unfold more outV; rw [← HU.out, ← HV.out]; omega), rfl⟩

theorem RSum_any (p : Option Addr) (c : Nat) (l : List UInt8) (w : World) (h : BL w p l) (hl : l.length ≤ 20000) :
    Calls Try.prog 20 #[.slice p l.length c] w fun e w' => e = .returned (.int .u32 (more 1 l : Int)) ∧ w = w' := by
  have cM := fun w h => Lib.hid (RMore_any 1 p c l w h hl (by decide))
  have HB := Lib.hid h
  obtain ⟨n, hn⟩ : ∃ n, n = l.length := ⟨_, rfl⟩
  rw [← hn] at cM ⊢
  clear hn hl h
  go_enter Try.func20, Try.ntmps20
  go_wp2_with (go_at_call 39; refine (cM _ HB.out).out.mono ?_; rintro e w1 ⟨rfl, rfl⟩)
  go_ret
  exact ⟨rfl, rfl⟩
end Ck
end Go.Proofs.Yteefkhgmcknbaaa
