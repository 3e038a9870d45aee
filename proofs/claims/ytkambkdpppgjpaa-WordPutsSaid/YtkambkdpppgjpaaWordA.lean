/-
  WordPuts, walked.
-/
import Derived.Test.YtkambkdpppgjpaaWordAwake
import Derived.Lib.Strings
namespace Go.Proofs.Ytkambkdpppgjpaa
open Go.RowKit
namespace Wd
open Mem

theorem putL_app (l : List UInt8) (n : Int) (v : Nat) : putL l n v = l ++ putL [] n v := by
  unfold putL; cases isW n <;> simp
/-- how many rounds the loop has -/
def rounds (n : Int) : Nat := min n.toNat 8
theorem fit_div {n : Int} (hw : isW n = true) (v : Nat) : fitB n v = (v / 256 ^ rounds n == 0) := by
  rcases isW_cases hw with rfl | rfl | rfl | rfl <;> · rw [Bool.eq_iff_iff]; simp [fitB, isW, rounds]
theorem fit_not {n : Int} (hw : isW n = false) (v : Nat) : fitB n v = false := by simp [fitB, hw]

set_option maxHeartbeats 4000000 in
theorem WordPuts_walk (p : Option Addr) (c : Nat) (l : List UInt8) (n : Int) (v : Nat) (w : World) (h : BL w p l) (_ : l.length ≤ c) (hm : l.length ≤ maxLen) (hv : v < 18446744073709551616) :
    Calls Try.prog 3 #[.slice p l.length c, .int .i64 n, .int .u64 (v : Int)] w fun e w' => e = .returned (.bool true) ∧ Below w.heap.size w w' := by
  have cA := fun w => Lib.hid (awake_any w)
  by_cases h2 : 2000 < l.length
  · obtain ⟨q, hq⟩ : ∃ q, q = l.length := ⟨_, rfl⟩
    rw [← hq] at hm h2 ⊢
    unfold maxLen at hm
    clear hq hv
    go_enter Try.func3, Try.ntmps3
    go_wp2_with (go_at_call 8; refine (cA _).out.mono ?_; rintro e w' ⟨rfl, hb⟩; have HB := Lib.hid hb; clear hb)
    go_ret
    exact ⟨rfl, HB.out⟩
  · have cP := Lib.hid (Put_any p c l n v w h (by omega) hv)
    have cR := fun w => Lib.hid (RBytes_any n v w hv)
    have cW := fun w => Lib.hid (RWidth_any n w)
    have cF := fun w => Lib.hid (Fits_any n v w hv)
    have rt0 := run_text (P := Try.prog) Try.underlying22 Try.underlying5 Try.underlying9 h c
    have HBL := Lib.hid h
    obtain ⟨q, hq⟩ : ∃ q, q = l.length := ⟨_, rfl⟩
    rw [← hq] at h2 cP rt0 ⊢
    have HQ := Lib.hid hq
    have HV := Lib.hid hv
    obtain ⟨X, hX⟩ : ∃ X, X = putL l n v := ⟨_, rfl⟩
    obtain ⟨Y, hY⟩ : ∃ Y, Y = putL [] n v := ⟨_, rfl⟩
    have HXY : Hid (X = l ++ Y) := by unfold Hid; rw [hX, hY]; exact putL_app l n v
    rw [← hX] at cP
    rw [← hY] at cR
    have HY := Lib.hid hY
    clear hq hv h hm hX hY
    go_enter Try.func3, Try.ntmps3
    go_wp2_with (first
      | (go_at_call 9; refine cP.out.mono ?_; rintro e w1 ⟨rfl, hrow, hb⟩; have HROW := Lib.hid hrow; have HB1 := Lib.hid hb; clear hrow hb)
      | (go_at_call 10; refine (cR _).out.mono ?_; rintro e w2 ⟨A, c2, rfl, hbl, hb⟩; have HBL2 := Lib.hid hbl; have HB2 := Lib.hid hb; clear hbl hb)
      | (go_at_call 11; refine (cW _).out.mono ?_; rintro e w3 ⟨rfl, rfl⟩))
    have HXB : Hid (BL w2 (some ⟨w.heap.size, 0, none⟩) X) := (HROW.out.kept HB2.out).bl
    have HLB : Hid (BL w2 p l) := (HBL.out.below HB1.out).below HB2.out
    have rtX := run_text (P := Try.prog) Try.underlying22 Try.underlying5 Try.underlying9 HXB.out X.length
    have rtY := run_text (P := Try.prog) Try.underlying22 Try.underlying5 Try.underlying9 HBL2.out c2
    have rtL := run_text_n (P := Try.prog) Try.underlying22 Try.underlying5 Try.underlying9 HLB.out HQ.out.symm c
    go_loop [11, 12] (fun x i => ∃ (k m : Nat), k ≤ rounds n ∧ i = .int .i64 k ∧ x = .int .u64 (m : Int) ∧ Hid (m = v / 256 ^ k)) (fun _ i => 8 - (intOf i).toNat)
    case atStart => exact ⟨0, v, Nat.zero_le _, rfl, rfl, by unfold Hid; simp⟩
    case round =>
      obtain ⟨k, m, hk, rfl, rfl, HM⟩ := hrel
      have HK := Lib.hid hk
      by_cases hlt : (k : Int) < n ∧ k < 8
      · obtain ⟨k1, k2⟩ := hlt
        clear hk
        go_wp2
        have hm : m < 18446744073709551616 := by rw [HM.out]; exact Nat.lt_of_le_of_lt (Nat.div_le_self _ _) HV.out
        refine ⟨⟨k + 1, m / 256, by unfold rounds; omega, by go_num, by simp [IntKind.wrap_u64]; omega, by have := HM.out; unfold Hid; rw [this, pow_div]⟩, by simp [intOf]; omega⟩
      · have hkr : k = rounds n := by have := HK.out; unfold rounds at *; omega
        have hfm : isW n = true → fitB n v = (m == 0) := fun hw => by rw [HM.out, hkr]; exact fit_div hw v
        clear hk hkr
        have HS : Hid ((strOf X).toList = (strOf l ++ strOf Y).toList) := by
          unfold Hid
          rw [HXY.out]
          simp only [Lib.toList_data]
          simp [strOf]
        have hs := HS.out
        have hsz : ¬ (9223372036854775807 < (strOf l).size + (strOf Y).size) := by
          have h1 := HXY.out
          have h2 : Y.length ≤ 8 := by rw [HY.out]; unfold putL; split <;> simp; rename_i hw; have := isW_cases hw; omega
          rw [strOf_size, strOf_size, ← HQ.out]; omega
        have hv : isW n = true ∨ isW n = false := by cases isW n <;> simp
        rcases hv with hw | hw
        · have hf := hfm hw
          by_cases hm0 : m = 0
          · subst hm0
            rw [show ((0 : Nat) == 0) = true from rfl] at hf
            rw [hf] at cF
            clear hfm hf
            rcases (show ((k : Int) < n ∧ 8 ≤ k) ∨ n ≤ k by omega) with ⟨hlt1, hlt2⟩ | hlt1
            all_goals
              clear hlt
              go_wp2_with (first
                | (go_at_call 12; refine (cF _).out.mono ?_; rintro e w3 ⟨rfl, rfl⟩)
                | (go_at_call 8; refine (cA _).out.mono ?_; rintro e w4 ⟨rfl, hb⟩; have HB4 := Lib.hid hb; clear hb))
              go_ret
              exact ⟨rfl, below_trans (below_trans (below_trans (Below.refl _ _) HB1.out) HB2.out) HB4.out⟩
          · have hm1 : ((m : Int) == 0) = false := by simpa using hm0
            rw [show (m == 0) = false by simpa using hm0] at hf
            rw [hf] at cF
            clear hfm hf hm0
            rcases (show ((k : Int) < n ∧ 8 ≤ k) ∨ n ≤ k by omega) with ⟨hlt1, hlt2⟩ | hlt1
            all_goals
              clear hlt
              go_wp2_with (first
                | (go_at_call 12; refine (cF _).out.mono ?_; rintro e w3 ⟨rfl, rfl⟩)
                | (go_at_call 8; refine (cA _).out.mono ?_; rintro e w4 ⟨rfl, hb⟩; have HB4 := Lib.hid hb; clear hb))
              go_ret
              exact ⟨rfl, below_trans (below_trans (below_trans (Below.refl _ _) HB1.out) HB2.out) HB4.out⟩
        · rw [fit_not hw] at cF
          clear hfm
          rcases (show ((k : Int) < n ∧ 8 ≤ k) ∨ n ≤ k by omega) with ⟨hlt1, hlt2⟩ | hlt1
          all_goals
            clear hlt
            go_wp2_with (first
              | (go_at_call 12; refine (cF _).out.mono ?_; rintro e w3 ⟨rfl, rfl⟩)
              | (go_at_call 8; refine (cA _).out.mono ?_; rintro e w4 ⟨rfl, hb⟩; have HB4 := Lib.hid hb; clear hb))
            go_ret
            exact ⟨rfl, below_trans (below_trans (below_trans (Below.refl _ _) HB1.out) HB2.out) HB4.out⟩
end Wd
end Go.Proofs.Ytkambkdpppgjpaa
