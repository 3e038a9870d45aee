/-
  The law LexCompares, walked.
-/
import Derived.Test.YteadgfdjpodblaaLexLaw
namespace Go.Proofs.Yteadgfdjpodblaa
open Go.RowKit
namespace Lx
set_option maxHeartbeats 1000000 in
theorem LexCompares_walk (a b : ByteArray) (w : World) :
    Calls Try.prog 3 #[.string a, .string b] w fun e w' => e = .returned (.bool true) ∧ Below w.heap.size w w' := by
  go_enter Try.func3, Try.ntmps3
  go_wp2_with fail
  refine (long_any [a, b] w.heap.size _ (by simp) ?_).mono ?_
  · intro j hj
    match j, hj with
    | 0, _ => simp [go_sem]
    | 1, _ => simp [go_sem]
  rintro e w1 ⟨rfl, rfl⟩
  cases hl : longB [a, b]
  · have hs := longB_all hl
    have hsa : a.size ≤ maxLen := by have := hs a (by simp); unfold maxLen; omega
    have hsb : b.size ≤ maxLen := by have := hs b (by simp); unfold maxLen; omega
    have hsn : a.size < maxLen := by have := hs a (by simp); unfold maxLen; omega
    have HS := Lib.hid hsn
    have hz : a.size ≤ 2000 := hs a (by simp)
    clear hs hsn hl
    go_wp2_with fail
    refine (Cut_any _ _ _ hsa hsb).mono ?_
    rintro e w2 ⟨rfl, n2, rfl⟩
    go_wp2_with fail
    refine (RCut_any _ _ _ hsa hsb).mono ?_
    rintro e w3 ⟨rfl, n3, rfl⟩
    go_wp2_with fail
    refine (Compare_any _ _ _).mono ?_
    rintro e w4 ⟨rfl, rfl⟩
    go_wp2_with fail
    refine (RCompare_any _ _ _ hsa).mono ?_
    rintro e w5 ⟨rfl, n5, rfl⟩
    go_wp2_with fail
    refine (Shared_any _ _ _ hsa).mono ?_
    rintro e w6 ⟨rfl, n6, rfl⟩
    go_wp2_with fail
    refine (RShared_any _ _ _ hsa).mono ?_
    rintro e w7 ⟨rfl, n7, rfl⟩
    go_wp2_with fail
    refine (Next_any _ _ HS.out).mono ?_
    rintro e w8 ⟨rfl, rfl⟩
    go_wp2_with fail
    refine (awake_any _).mono ?_
    rintro e w9 ⟨rfl, hb9⟩
    go_wp2_with fail
    go_ret
    exact ⟨rfl, Calm.bt (Calm.bd (Calm.ba (Calm.br _) _) _) hb9⟩
  · go_wp2_with fail
    refine (awake_any _).mono ?_
    rintro e w2 ⟨rfl, hb2⟩
    go_wp2_with fail
    go_ret
    exact ⟨rfl, Calm.bt (Calm.ba (Calm.br _) _) hb2⟩
end Lx
end Go.Proofs.Yteadgfdjpodblaa
