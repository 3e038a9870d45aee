/-
  CheckSums, walked.
-/
import Derived.Test.YtambfgonjajhgaaCheckSum
namespace Go.Proofs.Ytambfgonjajhgaa
open Go.RowKit
namespace Ck
open Mem

set_option maxHeartbeats 4000000 in
theorem CheckSums_walk (p : Option Addr) (c : Nat) (ls : List (List UInt8)) (s : Nat) (q : Option Addr) (d : Nat) (b : List UInt8) (w : World) (h : LL w p ls) (hl : ls.length ≤ 140737488355328) (hs : ∀ l ∈ ls, l.length ≤ 140737488355328) (h4 : s < 4294967296) (hb : BL w q b) (_ : b.length ≤ d) (hbm : b.length ≤ maxLen) :
    Calls Try.prog 3 #[.slice p ls.length c, .int .u32 (s : Int), .slice q b.length d] w fun e w' => e = .returned (.bool true) ∧ Below w.heap.size w w' := by
  have cA := fun w => Lib.hid (awake_any w)
  have cG := Lib.hid (great_any p c ls w h hl hs)
  obtain ⟨N, hN⟩ : ∃ N, N = ls.length := ⟨_, rfl⟩
  obtain ⟨M, hM⟩ : ∃ M, M = b.length := ⟨_, rfl⟩
  by_cases hx : grB ls = true ∨ 20000 < M
  · rw [← hN] at cG ⊢
    rw [← hM] at hbm ⊢
    unfold maxLen at hbm
    clear hM hN h hb
    cases hg : grB ls with
    | true =>
      rw [hg] at cG
      clear hg hx
      go_enter Try.func3, Try.ntmps3
      go_wp2_with (first
        | (go_at_call 6; refine cG.out.mono ?_; rintro e w' ⟨rfl, rfl⟩)
        | (go_at_call 7; refine (cA _).out.mono ?_; rintro e w' ⟨rfl, hb⟩; have HB := Lib.hid hb; clear hb))
      go_ret
      exact ⟨rfl, HB.out⟩
    | false =>
      rw [hg] at cG
      have hM : 20000 < M := hx.resolve_left (by rw [hg]; exact Bool.false_ne_true)
      clear hg hx
      go_enter Try.func3, Try.ntmps3
      go_wp2_with (first
        | (go_at_call 6; refine cG.out.mono ?_; rintro e w' ⟨rfl, rfl⟩)
        | (go_at_call 7; refine (cA _).out.mono ?_; rintro e w' ⟨rfl, hb⟩; have HB := Lib.hid hb; clear hb))
      go_ret
      exact ⟨rfl, HB.out⟩
  · have hg : grB ls = false := by cases h : grB ls with | true => exact absurd (.inl h) hx | false => rfl
    have hM2 : M ≤ 20000 := by omega
    obtain ⟨g1, g2⟩ := grB_not hg
    rw [hg] at cG
    have cJ := fun w h => Lib.hid (Join_any p c ls w h (by omega) (by omega))
    have cS := fun w h => Lib.hid (Sum_any p c ls w h hl hs)
    have cM := fun w h => Lib.hid (More_any s q d b w h (by rw [← hM]; omega) h4)
    have cRM := fun w h => Lib.hid (RMore_any s q d b w h (by rw [← hM]; omega) h4)
    obtain ⟨F, hF⟩ : ∃ F, F = ls.flatten := ⟨_, rfl⟩
    have hFl : F.length ≤ 20000 := by rw [hF, lens_flat]; exact g2
    rw [← hF] at cJ
    rw [sum_flat, ← hF] at cS
    have cRS := fun A c' w h => Lib.hid (RSum_any A c' F w h hFl)
    have cR := fun A c' s w h h1 => Lib.hid (Right_any A c' F s w h h1 (by omega))
    obtain ⟨K, hK⟩ : ∃ K, K = F.length := ⟨_, rfl⟩
    rw [← hK] at cJ cRS cR
    obtain ⟨T, hT⟩ : ∃ T, T = more 1 F := ⟨_, rfl⟩
    rw [← hT] at cS cRS cR
    rw [← hN] at cG cJ cS ⊢
    rw [← hM] at cM cRM ⊢
    have HL := Lib.hid h
    have HB := Lib.hid hb
    have hb1 : ((T : Int) == (s : Int)) = ((s : Int) == (T : Int)) := by rw [Bool.eq_iff_iff]; simp only [beq_iff_eq]; omega
    clear hg hx h hb hl hs hF hFl hK hT hN hM
    go_enter Try.func3, Try.ntmps3
    go_wp2_with (first
      | (go_at_call 6; refine cG.out.mono ?_; rintro e w' ⟨rfl, rfl⟩)
      | (go_at_call 8; refine (cJ _ HL.out).out.mono ?_; rintro e w1 ⟨A, c', rfl, hbl, hcl, hb⟩; have HF := Lib.hid hbl; have HC := Lib.hid hcl; have HB1 := Lib.hid hb; clear hbl hcl hb)
      | (go_at_call 9; refine (cS _ (HL.out.below HB1.out)).out.mono ?_; rintro e w' ⟨rfl, rfl⟩)
      | (go_at_call 10; refine (cRS _ _ _ (by first | exact HF.out | exact HF.out.below HB2.out)).out.mono ?_; rintro e w' ⟨rfl, rfl⟩)
      | (go_at_call 11; refine (cM _ (HB.out.below HB1.out)).out.mono ?_; rintro e w' ⟨rfl, rfl⟩)
      | (go_at_call 12; refine (cRM _ (HB.out.below HB1.out)).out.mono ?_; rintro e w' ⟨rfl, rfl⟩)
      | (go_at_call 13; refine (cR _ _ _ _ (HF.out.below HB2.out) HC.out).out.mono ?_; rintro e w3 ⟨rfl, hb⟩; have HB3 := Lib.hid hb; clear hb)
      | (go_at_call 13; refine (cR _ _ _ _ HF.out HC.out).out.mono ?_; rintro e w2 ⟨rfl, hb⟩; have HB2 := Lib.hid hb; clear hb)
      | (go_at_call 7; refine (cA _).out.mono ?_; rintro e w' ⟨rfl, hb⟩; have HB9 := Lib.hid hb; clear hb))
    go_ret
    exact ⟨rfl, below_trans (below_trans (below_trans HB1.out HB2.out) HB3.out) HB9.out⟩
end Ck
end Go.Proofs.Ytambfgonjajhgaa
