/-
  The code's Shared, Cut of layer lex.
-/
import Derived.Test.YtoibkjggfkkdhaaCmpC
import Derived.Test.YtoibkjggfkkdhaaCutR
namespace Go.Proofs.Ytoibkjggfkkdhaa
open Go.RowKit
namespace Lx

set_option maxHeartbeats 1000000 in
theorem Shared_any (a b : ByteArray) (w : World) (ha : a.size ≤ maxLen) :
    Calls Try.prog 38 #[.string a, .string b] w fun e w' => e = .returned (.int .i64 (shared a.data.toList b.data.toList)) ∧ ∃ n, w' = w.drewN n := by
  unfold maxLen at ha
  go_enter Try.func38, Try.ntmps38
  go_wp2
  go_loopw [5] (fun i wr => ∃ k : Nat, k ≤ a.size ∧ k ≤ b.size ∧ i = .int .i64 k ∧ EqTo a b k ∧ ∃ n, wr = w.drewN n) (fun i _ => a.size - (intOf i).toNat)
  case atStart => exact ⟨0, Nat.zero_le _, Nat.zero_le _, rfl, EqTo.zero a b, 0, rfl⟩
  case round =>
    obtain ⟨k, hka, hkb, rfl, heq, n, rfl⟩ := hrel
    by_cases h1 : k < a.size
    · by_cases h2 : k < b.size
      · by_cases h3 : a[k] = b[k]
        · have HR := Lib.hid (heq.succ h1 h2 h3)
          have h4 : ((a[k].toNat : Int) == (b[k].toNat : Int)) = true := by rw [h3]; simp
          clear h3
          go_wp2
          go_quiet (fail)
          go_wp2
          go_roundw
          case rel => exact ⟨k + 1, by omega, by omega, by go_num, HR.out, _, rfl⟩
          case measure => simp [intOf]; omega
        · have HR := Lib.hid (heq.shared hka hkb (fun _ _ => h3))
          have h4 : ((a[k].toNat : Int) == (b[k].toNat : Int)) = false := by
            rw [beq_eq_false_iff_ne]; intro e; exact h3 (UInt8.toNat_inj.1 (by omega))
          clear h3
          go_wp2
          go_quiet (fail)
          go_wp2
          go_ret
          exact ⟨ret_int (by rw [HR.out]), drewN2 _ _ _⟩
      · have HR := Lib.hid (heq.shared hka hkb (fun _ h => absurd h h2))
        have h2' : decide (k < b.size) = false := by simpa using h2
        go_wp2
        go_quiet (fail)
        go_wp2
        go_ret
        exact ⟨ret_int (by rw [HR.out]), drewN2 _ _ _⟩
    · have HR := Lib.hid (heq.shared hka hkb (fun h _ => absurd h h1))
      have h1' : decide (k < a.size) = false := by simpa using h1
      go_wp2
      go_quiet (fail)
      go_wp2
      go_ret
      exact ⟨ret_int (by rw [HR.out]), drewN2 _ _ _⟩

set_option maxHeartbeats 1000000 in
theorem Cut_any (a b : ByteArray) (w : World) (ha : a.size ≤ maxLen) (hb : b.size ≤ maxLen) :
    Calls Try.prog 31 #[.string a, .string b] w fun e w' => e = .returned (.tuple #[.string (cutB a b).1, .bool (cutB a b).2]) ∧ ∃ n, w' = w.drewN n := by
  unfold maxLen at ha hb
  by_cases h : 0 ≤ cmpB a b
  · have HR := Lib.hid (cutB_none h)
    go_enter Try.func31, Try.ntmps31
    go_wp2_with (go_at_call 22; refine (Compare_any _ _ _).mono ?_; rintro e w' ⟨rfl, rfl⟩)
    go_ret2
    exact ⟨ret_pair (by rw [HR.out]; rfl) (by rw [HR.out]; rfl), 0, rfl⟩
  · have HR := Lib.hid (cutB_some h)
    have hl : shared a.data.toList b.data.toList < b.size := by
      have := shared_lt_of_lt (a := a.data.toList) (b := b.data.toList) (by unfold cmpB at h; omega)
      rw [len_eq] at this; exact this
    go_enter Try.func31, Try.ntmps31
    go_wp2_with (first | (go_at_call 22; refine (Compare_any _ _ _).mono ?_; rintro e w' ⟨rfl, rfl⟩) | (go_at_call 38; refine (Shared_any _ _ _ ?_).mono ?_; (unfold maxLen; omega); rintro e w' ⟨rfl, n, rfl⟩))
    go_ret2
    exact ⟨ret_pair (by rw [HR.out]; rfl) (by rw [HR.out]; rfl), n, rfl⟩
end Lx
end Go.Proofs.Ytoibkjggfkkdhaa
