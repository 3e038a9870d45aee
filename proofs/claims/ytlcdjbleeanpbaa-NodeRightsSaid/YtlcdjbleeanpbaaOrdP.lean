/-
  The order of keys: facts; the document's Compare, no world said outright.
-/
import Derived.Test.YtlcdjbleeanpbaaOrdR
namespace Go.Proofs.Ytlcdjbleeanpbaa
open Go.RowKit
namespace Bu
open Lx
theorem cmpB_trans {a b c : ByteArray} (h : cmpB a b < 0) (k : cmpB b c < 0) : cmpB a c < 0 := cmp_trans_lt h k
theorem cmpB_self (a : ByteArray) : cmpB a a = 0 := cmp_self _
theorem cmpB_neg (a b : ByteArray) : cmpB a b = -cmpB b a := cmp_neg _ _
theorem cmpB_zero {a b : ByteArray} (h : cmpB a b = 0) : a = b := by
  have := cmp_zero h
  cases a
  cases b
  simp only [ByteArray.mk.injEq] at *
  exact Array.ext' this
theorem cmpB_ne {a b : ByteArray} (h : cmpB a b < 0) : a ≠ b := fun e => by
  subst e
  rw [cmpB_self] at h
  omega
theorem cmpB_tri (a b : ByteArray) : cmpB a b < 0 ∨ a = b ∨ cmpB b a < 0 := by
  by_cases h : cmpB a b < 0
  · exact .inl h
  · by_cases k : cmpB b a < 0
    · exact .inr (.inr k)
    · have := cmpB_neg a b
      exact .inr (.inl (cmpB_zero (by omega)))
theorem RCmp (a b : ByteArray) (ha : a.size ≤ maxLen) (w : World) : Calls Try.prog 61 #[.string a, .string b] w fun e w' => e = .returned (.int .i64 (cmpB a b)) ∧ Below w.heap.size w w' :=
  (RCompare_any a b w ha).mono fun e w' ⟨he, n, hw⟩ => ⟨he, by rw [hw]; exact ⟨rfl, rfl, rfl, Nat.le_refl _, fun _ _ => rfl⟩⟩
end Bu
end Go.Proofs.Ytlcdjbleeanpbaa
