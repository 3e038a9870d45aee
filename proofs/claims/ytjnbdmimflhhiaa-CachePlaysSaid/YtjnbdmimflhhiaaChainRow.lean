/-
  Contracts of layer chain: end, place, Len, Has, First, Last.
-/
import Derived.Test.YtjnbdmimflhhiaaChainMem
namespace Go.Proofs.Ytjnbdmimflhhiaa
open Go.RowKit
namespace Cn
open Mem

theorem end_any (g b c n : Nat) (k : Int) (A B : Nat → Nat) (w : World) (h : ChW w g b c n k A B) : Calls Try.prog 66 #[.pointer (some ⟨g, 0, none⟩)] w fun e w' => e = .returned (.int .i64 (n : Int)) ∧ w = w' := by
  obtain ⟨c0, -⟩ := h.cells
  have h1 := h.hi
  have h2 : ((n + 1 : Nat) : Int) - 1 = (n : Int) := by omega
  clear h
  go_enter Try.func66, Try.ntmps66
  go_wp2
  go_ret
  exact ⟨rfl, rfl⟩
theorem Len_any (g b c n : Nat) (k : Int) (A B : Nat → Nat) (w : World) (h : ChW w g b c n k A B) : Calls Try.prog 84 #[.pointer (some ⟨g, 0, none⟩)] w fun e w' => e = .returned (.int .i64 k) ∧ w = w' := by
  obtain ⟨-, c1⟩ := h.cells
  clear h
  go_enter Try.func84, Try.ntmps84
  go_wp2
  go_ret
  exact ⟨rfl, rfl⟩
theorem place_in (g b c n : Nat) (k : Int) (A B : Nat → Nat) (i : Int) (w : World) (h : ChW w g b c n k A B) (h0 : 0 ≤ i) (h1 : i < n) : Calls Try.prog 63 #[.pointer (some ⟨g, 0, none⟩), .int .i64 i] w fun e w' => e = .returned (.int .i64 0) ∧ w = w' := by
  obtain ⟨c0, -⟩ := h.cells
  have cE := fun w h => Lib.hid (end_any g b c n k A B w h)
  have HR := Lib.hid h
  have hn0 : (((n + 1 : Nat) : Int) == 0) = false := by simp; omega
  have hn := h.hi
  clear h
  go_enter Try.func63, Try.ntmps63
  go_wp2_with (go_at_call 66; refine (cE _ HR.out).out.mono ?_; rintro e w' ⟨rfl, rfl⟩)
  go_ret
  exact ⟨rfl, rfl⟩
theorem place_out (g b c n : Nat) (k : Int) (A B : Nat → Nat) (i : Int) (w : World) (h : ChW w g b c n k A B) (h0 : ¬ (0 ≤ i ∧ i < n)) : Calls Try.prog 63 #[.pointer (some ⟨g, 0, none⟩), .int .i64 i] w fun e w' => e = .returned (.int .i64 4) ∧ w = w' := by
  obtain ⟨c0, -⟩ := h.cells
  have cE := fun w h => Lib.hid (end_any g b c n k A B w h)
  have HR := Lib.hid h
  have hn0 : (((n + 1 : Nat) : Int) == 0) = false := by simp; omega
  have hn := h.hi
  clear h
  by_cases hi : i < 0
  · clear h0
    go_enter Try.func63, Try.ntmps63
    go_wp2_with (go_at_call 66; refine (cE _ HR.out).out.mono ?_; rintro e w' ⟨rfl, rfl⟩)
    go_ret
    exact ⟨rfl, rfl⟩
  · have h1 : (n : Int) ≤ i := by omega
    have h2 : 0 ≤ i := by omega
    clear h0 hi
    go_enter Try.func63, Try.ntmps63
    go_wp2_with (go_at_call 66; refine (cE _ HR.out).out.mono ?_; rintro e w' ⟨rfl, rfl⟩)
    go_ret
    exact ⟨rfl, rfl⟩
theorem Has_in (g b c n i : Nat) (k : Int) (A B : Nat → Nat) (w : World) (h : ChW w g b c n k A B) (h1 : i < n) : Calls Try.prog 89 #[.pointer (some ⟨g, 0, none⟩), .int .i64 (i : Int)] w fun e w' => e = .returned (.bool (B i != i)) ∧ w = w' := by
  have HR := Lib.hid h
  obtain ⟨c0, -⟩ := h.cells
  have cP := fun w h => Lib.hid (place_in g b c n k A B i w h (by omega) (by omega))
  have c2 := h.lk.cellB (i := i) (by omega)
  have hn := h.hi
  have hb : ((B i : Int) != (i : Int)) = (B i != i) := by rw [Bool.eq_iff_iff]; simp; omega
  generalize (B i != i) = v at hb ⊢
  generalize (B i : Int) = x at hb c2
  clear h
  go_enter Try.func89, Try.ntmps89
  go_wp2_with (go_at_call 63; refine (cP _ HR.out).out.mono ?_; rintro e w' ⟨rfl, rfl⟩)
  go_ret
  exact ⟨rfl, rfl⟩
theorem Has_out (g b c n : Nat) (i : Int) (k : Int) (A B : Nat → Nat) (w : World) (h : ChW w g b c n k A B) (h1 : ¬ (0 ≤ i ∧ i < n)) : Calls Try.prog 89 #[.pointer (some ⟨g, 0, none⟩), .int .i64 i] w fun e w' => e = .returned (.bool false) ∧ w = w' := by
  have HR := Lib.hid h
  have cP := fun w h => Lib.hid (place_out g b c n k A B i w h h1)
  clear h h1
  go_enter Try.func89, Try.ntmps89
  go_wp2_with (go_at_call 63; refine (cP _ HR.out).out.mono ?_; rintro e w' ⟨rfl, rfl⟩)
  go_ret
  exact ⟨rfl, rfl⟩
end Cn
end Go.Proofs.Ytjnbdmimflhhiaa
