/-
  The document's Cut of layer lex.
-/
import Derived.Test.YtoibkjggfkkdhaaOrdR
namespace Go.Proofs.Ytoibkjggfkkdhaa
open Go.RowKit
namespace Lx

/-- the cut, as a text and whether there is one -/
def cutB (a b : ByteArray) : ByteArray × Bool :=
  if 0 ≤ cmpB a b then (⟨#[]⟩, false) else (b.extract 0 (shared a.data.toList b.data.toList + 1), true)
theorem cutB_none {a b : ByteArray} (h : 0 ≤ cmpB a b) : cutB a b = (⟨#[]⟩, false) := if_pos h
theorem cutB_some {a b : ByteArray} (h : ¬ 0 ≤ cmpB a b) : cutB a b = (b.extract 0 (shared a.data.toList b.data.toList + 1), true) := if_neg h

theorem extract_list (b : ByteArray) (k : Nat) : (b.extract 0 k).data.toList = b.data.toList.take k := by
  simp [ByteArray.data_extract]

set_option maxHeartbeats 1000000 in
theorem RCut_any (a b : ByteArray) (w : World) (ha : a.size ≤ maxLen) (hb : b.size ≤ maxLen) :
    Calls Try.prog 20 #[.string a, .string b] w fun e w' => e = .returned (.tuple #[.string (cutB a b).1, .bool (cutB a b).2]) ∧ ∃ n, w' = w.drewN n := by
  unfold maxLen at ha hb
  by_cases h : 0 ≤ cmpB a b
  · have HR := Lib.hid (cutB_none h)
    go_enter Try.func20, Try.ntmps20
    go_wp2_with (go_at_call 21; refine (RCompare_any _ _ _ ?_).mono ?_; (unfold maxLen; omega); rintro e w' ⟨rfl, n, rfl⟩)
    go_ret2
    exact ⟨ret_pair (by rw [HR.out]; rfl) (by rw [HR.out]; rfl), n, rfl⟩
  · have HR := Lib.hid (cutB_some h)
    have hneg : Lib.compareBytes a.data.toList b.data.toList < 0 := by unfold cmpB at h; omega
    have hl : shared a.data.toList b.data.toList < b.size := by
      have := shared_lt_of_lt hneg
      rw [len_eq] at this; exact this
    have H1 := Lib.hid (cmp_take_shared a.data.toList b.data.toList)
    have H2 := Lib.hid (cmp_take_cut a.data.toList b.data.toList hneg)
    clear hneg
    generalize hs : shared a.data.toList b.data.toList = m at *
    have HS := Lib.hid hs
    clear hs
    go_enter Try.func20, Try.ntmps20
    go_wp2_with (go_at_call 21; refine (RCompare_any _ _ _ ?_).mono ?_; (unfold maxLen; omega); rintro e w' ⟨rfl, n0, rfl⟩)
    go_loopw [6] (fun i wr => ∃ k : Nat, k ≤ m + 1 ∧ i = .int .i64 k ∧ ∃ n, wr = w.drewN n) (fun i _ => m + 1 - (intOf i).toNat)
    case atStart => exact ⟨0, Nat.zero_le _, rfl, _, rfl⟩
    case round =>
      obtain ⟨k, hk, rfl, n, rfl⟩ := hrel
      by_cases h3 : k ≤ m
      · have h4 : 0 ≤ cmpB a (b.extract 0 k) := by
          have := H1.out k h3
          unfold cmpB; rw [extract_list]; exact this
        go_wp2_with (go_at_call 21; refine (RCompare_any _ _ _ ?_).mono ?_; (unfold maxLen; omega); rintro e w' ⟨rfl, n1, rfl⟩)
        go_roundw
        case rel => exact ⟨k + 1, by omega, by go_num, _, rfl⟩
        case measure => simp [intOf]; omega
      · obtain rfl : k = m + 1 := by omega
        have h4 : cmpB a (b.extract 0 (m + 1)) < 0 := by
          have := H2.out
          unfold cmpB; rw [extract_list]; exact this
        go_wp2_with (go_at_call 21; refine (RCompare_any _ _ _ ?_).mono ?_; (unfold maxLen; omega); rintro e w' ⟨rfl, n1, rfl⟩)
        go_ret2
        exact ⟨ret_pair (by rw [HR.out]; rfl) (by rw [HR.out]; rfl), _, rfl⟩
end Lx
end Go.Proofs.Ytoibkjggfkkdhaa
