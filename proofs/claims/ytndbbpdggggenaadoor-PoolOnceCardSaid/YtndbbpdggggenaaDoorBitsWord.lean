/-
  Contracts on words: math/bits.OnesCount64, TrailingZeros64; bits.bit.
-/
import Derived.Test.YtndbbpdggggenaaDoorProg
import Derived.Test.YtndbbpdggggenaaDoorBitsPlain
import Derived.Laws.BitsAllLaws
import Derived.WalkKit
import Derived.WalkLawsBesides
import Derived.KernelRfl
import Derived.Lib.Hide
import Derived.Lib.TrailingZeros
namespace Go.Proofs.YtndbbpdggggenaaDoor
open Go.RowKit
namespace Bt

theorem cdiv (x c : Nat) : (x : Int) / (c : Int) = ((x / c : Nat) : Int) := rfl
theorem ones1 (x : Nat) (hx : x < 18446744073709551616) : IntKind.u64.wrap (bits .and .u64 ((x : Int) / 2) 6148914691236517205 + bits .and .u64 (x : Int) 6148914691236517205) = ((s1 8 x : Nat) : Int) ∧ s1 8 x < 18446744073709551616 := by
  have e1 := u64_and_nat (x / 2) 6148914691236517205 (by omega) (by decide)
  have e2 := u64_and_nat x 6148914691236517205 hx (by decide)
  have e : s1 8 x = (x / 2 &&& 6148914691236517205) + (x &&& 6148914691236517205) := rfl
  have b1 : x / 2 &&& 6148914691236517205 ≤ 6148914691236517205 := Nat.and_le_right
  have b2 : x &&& 6148914691236517205 ≤ 6148914691236517205 := Nat.and_le_right
  rw [show (x : Int) / 2 = ((x / 2 : Nat) : Int) from rfl]
  rw [show ((6148914691236517205 : Nat) : Int) = 6148914691236517205 from rfl] at e1 e2
  rw [e1, e2, e, IntKind.wrap_u64]
  omega
theorem ones2 (x : Nat) (hx : x < 18446744073709551616) : IntKind.u64.wrap (bits .and .u64 ((x : Int) / 4) 3689348814741910323 + bits .and .u64 (x : Int) 3689348814741910323) = ((s2 8 x : Nat) : Int) ∧ s2 8 x ≤ 7378697629483820646 := by
  have e1 := u64_and_nat (x / 4) 3689348814741910323 (by omega) (by decide)
  have e2 := u64_and_nat x 3689348814741910323 hx (by decide)
  have e : s2 8 x = (x / 4 &&& 3689348814741910323) + (x &&& 3689348814741910323) := rfl
  have b1 : x / 4 &&& 3689348814741910323 ≤ 3689348814741910323 := Nat.and_le_right
  have b2 : x &&& 3689348814741910323 ≤ 3689348814741910323 := Nat.and_le_right
  rw [show (x : Int) / 4 = ((x / 4 : Nat) : Int) from rfl]
  rw [show ((3689348814741910323 : Nat) : Int) = 3689348814741910323 from rfl] at e1 e2
  rw [e1, e2, e, IntKind.wrap_u64]
  omega
theorem ones3 (x : Nat) (hx : x ≤ 7378697629483820646) : bits .and .u64 (IntKind.u64.wrap ((x : Int) / 16 + (x : Int))) 1085102592571150095 = ((s3 8 x : Nat) : Int) := by
  have e1 := u64_and_nat (x / 16 + x) 1085102592571150095 (by omega) (by decide)
  rw [show ((1085102592571150095 : Nat) : Int) = 1085102592571150095 from rfl] at e1
  rw [IntKind.wrap_u64, show ((x : Int) / 16 + (x : Int)) % 18446744073709551616 = ((x / 16 + x : Nat) : Int) by omega, e1]
  rfl
theorem ones4 (x v t u : Nat) (hv : v = sb 8 x) (ht : t = v + v / 256) (hu : u = t + t / 65536) :
    IntKind.u64.wrap ((v : Int) + (v : Int) / 256) = (t : Int) ∧ IntKind.u64.wrap ((t : Int) + (t : Int) / 65536) = (u : Int) ∧ IntKind.u64.wrap ((u : Int) + (u : Int) / 4294967296) = ((u + u / 4294967296 : Nat) : Int) ∧ u + u / 4294967296 < 9223372036854775808 ∧ (u + u / 4294967296) % 128 = ones x := by
  obtain ⟨h1, h2⟩ := ones_sum x v t u hv ht hu
  clear hv
  simp only [IntKind.wrap_u64]
  omega

set_option maxHeartbeats 1000000 in
theorem OnesCount64_any (x : Nat) (w : World) (hx : x < 18446744073709551616) : Calls Tryd.prog 35 #[.int .u64 (x : Int)] w fun e w' => e = .returned (.int .i64 (ones x : Nat)) ∧ w = w' := by
  obtain ⟨k1, l1⟩ := ones1 x hx
  obtain ⟨k2, l2⟩ := ones2 _ l1
  have k3 := ones3 _ l2
  have e3 : s3 8 (s2 8 (s1 8 x)) = sb 8 x := s3_s21 8 x
  rw [e3] at k3
  obtain ⟨v, hv⟩ : ∃ v, v = sb 8 x := ⟨_, rfl⟩
  obtain ⟨t, ht⟩ : ∃ t, t = v + v / 256 := ⟨_, rfl⟩
  obtain ⟨u, hu⟩ : ∃ u, u = t + t / 65536 := ⟨_, rfl⟩
  obtain ⟨k4, k5, k6, l6, k7⟩ := ones4 x v t u hv ht hu
  rw [← hv] at k3
  generalize s2 8 (s1 8 x) = a2 at *
  generalize s1 8 x = a1 at *
  generalize u + u / 4294967296 = q at *
  have k8 : bits .and .i64 ((q : Int)) 127 = (ones x : Nat) := by rw [i64_and127, ← k7]; omega
  clear e3 l1 l2 k7 hv ht hu
  go_enter Tryd.func35, Tryd.ntmps35
  go_wp2
  go_ret
  exact ⟨rfl, rfl⟩

/-- the library's table lies there -/
def Tab (w : World) : Prop := ∀ j, j < 64 → w.cell? ⟨0, j, none⟩ = some (.int .u8 (Lib.deBruijn64tab.getD j 0 : Nat))
theorem Tab.lt {w : World} (h : Tab w) : 0 < w.heap.size := by
  have h0 := h 0 (by omega)
  rcases Nat.lt_or_ge 0 w.heap.size with h' | h'
  · exact h'
  · simp [World.cell?, Array.getElem?_eq_none h'] at h0
theorem Tab.keep {w w' : World} (h : Tab w) (hk : w'.heap[0]? = w.heap[0]?) : Tab w' := fun j hj => by
  rw [← h j hj]
  exact World.cell?_of_block (w := w) (a := ⟨0, j, none⟩) hk

theorem tz_key (x a : Nat) (hx0 : x ≠ 0) (hx : x < 18446744073709551616) (hlow : x &&& (18446744073709551616 - x) = a) :
    IntKind.u64.wrap (bits BinOp.and IntKind.u64 (x : Int) (IntKind.u64.wrap (-(x : Int))) * 285870213051353865) / 288230376151711744 = ((a * 285870213051353865 % 18446744073709551616 / 288230376151711744 : Nat) : Int) := by
  have e1 : IntKind.u64.wrap (-(x : Int)) = ((18446744073709551616 - x : Nat) : Int) := by rw [IntKind.wrap_u64]; omega
  rw [e1, u64_and_nat x _ hx (by omega), hlow, IntKind.wrap_u64]
  omega
set_option maxHeartbeats 1000000 in
theorem tz_core (x k idx : Nat) (w : World) (hx0 : ((x : Int) == 0) = false)
    (key : IntKind.u64.wrap (bits BinOp.and IntKind.u64 (x : Int) (IntKind.u64.wrap (-(x : Int))) * 285870213051353865) / 288230376151711744 = (idx : Int))
    (hi : idx < 64) (hk : k < 64) (hcell : w.cell? ⟨0, idx, none⟩ = some (.int .u8 k)) :
    Calls Tryd.prog 37 #[.int .u64 (x : Int)] w fun e w' => e = .returned (.int .i64 k) ∧ w = w' := by
  go_enter Tryd.func37, Tryd.ntmps37
  go_wp2_with (simp only [key])
  go_ret
  exact ⟨rfl, rfl⟩
theorem TrailingZeros64_any (x : Nat) (w : World) (h0 : x ≠ 0) (hx : x < 18446744073709551616) (hT : Tab w) :
    Calls Tryd.prog 37 #[.int .u64 (x : Int)] w fun e w' => e = .returned (.int .i64 (Lib.ctz 64 x : Nat)) ∧ w = w' := by
  obtain ⟨hlow, hk⟩ := Lib.lowest_bit 64 x h0 hx
  obtain ⟨hi, htab⟩ := Lib.deBruijn64_at _ hk
  have hcell := hT _ hi
  rw [htab] at hcell
  exact tz_core x _ _ w (by simp; omega) (tz_key x _ h0 hx hlow) hi hk hcell

theorem shl_one (i : Nat) : IntKind.u64.wrap (2 ^ (i % 64)) = ((2 ^ (i % 64) : Nat) : Int) := by
  have : 2 ^ (i % 64) < 2 ^ 64 := Nat.pow_lt_pow_right (by omega) (by omega)
  rw [IntKind.wrap_u64]
  have e : (2 : Int) ^ (i % 64) = ((2 ^ (i % 64) : Nat) : Int) := by simp
  rw [e]
  generalize 2 ^ (i % 64) = p at *
  omega
theorem bit_any (i : Nat) (w : World) (hi : i < 9223372036854775808) : Calls Tryd.prog 34 #[.int .i64 (i : Int)] w fun e w' => e = .returned (.int .u64 (2 ^ (i % 64) : Nat)) ∧ w = w' := by
  have k1 := shl_one i
  go_enter Tryd.func34, Tryd.ntmps34
  go_wp2
  go_ret
  exact ⟨by rw [k1]; rfl, rfl⟩
end Bt
end Go.Proofs.YtndbbpdggggenaaDoor
