/-
  Contracts of layer conf, and of the document's settings. Written by scripts/conf.py.
-/
import Derived.Test.YteefkhgmcknbaaaConfD
import Derived.Test.YteefkhgmcknbaaaChecked
import Derived.Test.YteefkhgmcknbaaaDrift
import Derived.WalkKit
import Derived.WalkLawsBesides
import Derived.KernelRfl
import Derived.WalkSpells
import Derived.BigQuiet
import Derived.Deep.DeepCutAuto
import Derived.Deep.CutBlock
import Derived.Lib.Hide
namespace Go.Proofs.Yteefkhgmcknbaaa
open Go.RowKit
namespace Cf

theorem between_yes (lo n hi : Int) (W : World) (h1 : lo ≤ n) (h2 : n ≤ hi) : Calls Try.prog 36 #[.int .i64 lo, .int .i64 n, .int .i64 hi] W fun e w' => e = .returned (.bool true) ∧ Below W.heap.size W w' := by
  go_enter Try.func36, Try.ntmps36
  go_wp2
  go_ret
  exact ⟨rfl, Below.refl _ _⟩
theorem between_no (lo n hi : Int) (W : World) (h : ¬ (lo ≤ n ∧ n ≤ hi)) : Calls Try.prog 36 #[.int .i64 lo, .int .i64 n, .int .i64 hi] W fun e w' => e = .returned (.bool false) ∧ Below W.heap.size W w' := by
  by_cases h1 : lo ≤ n
  · have h2 : decide (n ≤ hi) = false := by simp; omega
    clear h
    go_enter Try.func36, Try.ntmps36
    go_wp2
    go_ret
    exact ⟨rfl, Below.refl _ _⟩
  · have h1 : n < lo := by omega
    clear h
    go_enter Try.func36, Try.ntmps36
    go_wp2
    go_ret
    exact ⟨rfl, Below.refl _ _⟩
set_option maxRecDepth 100000 in
set_option maxHeartbeats 2000000 in
theorem isShaped_yes (b y fr fa bu le ke va : Int) (W : World) (h : Shape fa bu le ke va) : Calls Try.prog 35 #[.agg #[.int .i64 b, .int .i64 y, .int .i64 fr, .int .i64 fa, .int .i64 bu, .int .i64 le, .int .i64 ke, .int .i64 va]] W fun e w' => e = .returned (.bool true) ∧ Below W.heap.size W w' := by
  obtain ⟨⟨h1, h1'⟩, ⟨h2, h2'⟩, ⟨h3, h3'⟩, ⟨h4, h4'⟩, h5, h5'⟩ := h
  have hw : IntKind.i64.wrap (2 * fa) = 2 * fa := by rw [IntKind.wrap_i64]; omega
  go_enter Try.func35, Try.ntmps35
  go_upto_region 1 with fail
  have hx := heap_alloc_new W (.cells #[.int .i64 b, .int .i64 y, .int .i64 fr, .int .i64 fa, .int .i64 bu, .int .i64 le, .int .i64 ke, .int .i64 va] 23)
  have hb1 : Below W.heap.size W (W.alloc (.cells #[.int .i64 b, .int .i64 y, .int .i64 fr, .int .i64 fa, .int .i64 bu, .int .i64 le, .int .i64 ke, .int .i64 va] 23)) := (Below.refl _ _).alloc (Nat.le_refl _) _
  obtain ⟨g, hg⟩ : ∃ g, g = W.heap.size := ⟨_, rfl⟩
  generalize W.alloc (.cells #[.int .i64 b, .int .i64 y, .int .i64 fr, .int .i64 fa, .int .i64 bu, .int .i64 le, .int .i64 ke, .int .i64 va] 23) = w1 at *
  rw [← hg] at hx ⊢
  have HX := Lib.hid hx
  have HB := Lib.hid hb1
  obtain ⟨c0, c1, c2, c3, c4, c5, c6, c7⟩ := box8 hx
  clear hx hb1 hg
  go_wp2_with (go_at_call 36; (first | (refine (between_yes _ _ _ _ (by omega) (by omega)).mono ?_) | (refine (between_no _ _ _ _ (by omega)).mono ?_)); rintro e w' ⟨rfl, hb⟩; replace HX := Lib.hid (kept8 HX.out hb); replace HB := Lib.hid (bel2 HB.out hb); clear hb; obtain ⟨c0, c1, c2, c3, c4, c5, c6, c7⟩ := box8 HX.out)
  go_ret
  exact ⟨rfl, HB.out⟩
set_option maxRecDepth 100000 in
set_option maxHeartbeats 2000000 in
theorem isShaped_no (b y fr fa bu le ke va : Int) (W : World) (h : ¬ Shape fa bu le ke va) : Calls Try.prog 35 #[.agg #[.int .i64 b, .int .i64 y, .int .i64 fr, .int .i64 fa, .int .i64 bu, .int .i64 le, .int .i64 ke, .int .i64 va]] W fun e w' => e = .returned (.bool false) ∧ Below W.heap.size W w' := by
  by_cases nfa : 8 ≤ fa ∧ fa ≤ 64
  case neg =>
    clear h
    go_enter Try.func35, Try.ntmps35
    go_upto_region 1 with fail
    have hx := heap_alloc_new W (.cells #[.int .i64 b, .int .i64 y, .int .i64 fr, .int .i64 fa, .int .i64 bu, .int .i64 le, .int .i64 ke, .int .i64 va] 23)
    have hb1 : Below W.heap.size W (W.alloc (.cells #[.int .i64 b, .int .i64 y, .int .i64 fr, .int .i64 fa, .int .i64 bu, .int .i64 le, .int .i64 ke, .int .i64 va] 23)) := (Below.refl _ _).alloc (Nat.le_refl _) _
    obtain ⟨g, hg⟩ : ∃ g, g = W.heap.size := ⟨_, rfl⟩
    generalize W.alloc (.cells #[.int .i64 b, .int .i64 y, .int .i64 fr, .int .i64 fa, .int .i64 bu, .int .i64 le, .int .i64 ke, .int .i64 va] 23) = w1 at *
    rw [← hg] at hx ⊢
    have HX := Lib.hid hx
    have HB := Lib.hid hb1
    obtain ⟨c0, c1, c2, c3, c4, c5, c6, c7⟩ := box8 hx
    clear hx hb1 hg
    go_wp2_with (go_at_call 36; (first | (refine (between_yes _ _ _ _ (by omega) (by omega)).mono ?_) | (refine (between_no _ _ _ _ (by omega)).mono ?_)); rintro e w' ⟨rfl, hb⟩; replace HX := Lib.hid (kept8 HX.out hb); replace HB := Lib.hid (bel2 HB.out hb); clear hb; obtain ⟨c0, c1, c2, c3, c4, c5, c6, c7⟩ := box8 HX.out)
    go_ret
    exact ⟨rfl, HB.out⟩
  by_cases nbu : 2 * fa ≤ bu ∧ bu ≤ 512
  case neg =>
    have hw : IntKind.i64.wrap (2 * fa) = 2 * fa := by rw [IntKind.wrap_i64]; omega
    clear h
    obtain ⟨mfa, mfax⟩ := nfa
    go_enter Try.func35, Try.ntmps35
    go_upto_region 1 with fail
    have hx := heap_alloc_new W (.cells #[.int .i64 b, .int .i64 y, .int .i64 fr, .int .i64 fa, .int .i64 bu, .int .i64 le, .int .i64 ke, .int .i64 va] 23)
    have hb1 : Below W.heap.size W (W.alloc (.cells #[.int .i64 b, .int .i64 y, .int .i64 fr, .int .i64 fa, .int .i64 bu, .int .i64 le, .int .i64 ke, .int .i64 va] 23)) := (Below.refl _ _).alloc (Nat.le_refl _) _
    obtain ⟨g, hg⟩ : ∃ g, g = W.heap.size := ⟨_, rfl⟩
    generalize W.alloc (.cells #[.int .i64 b, .int .i64 y, .int .i64 fr, .int .i64 fa, .int .i64 bu, .int .i64 le, .int .i64 ke, .int .i64 va] 23) = w1 at *
    rw [← hg] at hx ⊢
    have HX := Lib.hid hx
    have HB := Lib.hid hb1
    obtain ⟨c0, c1, c2, c3, c4, c5, c6, c7⟩ := box8 hx
    clear hx hb1 hg
    go_wp2_with (go_at_call 36; (first | (refine (between_yes _ _ _ _ (by omega) (by omega)).mono ?_) | (refine (between_no _ _ _ _ (by omega)).mono ?_)); rintro e w' ⟨rfl, hb⟩; replace HX := Lib.hid (kept8 HX.out hb); replace HB := Lib.hid (bel2 HB.out hb); clear hb; obtain ⟨c0, c1, c2, c3, c4, c5, c6, c7⟩ := box8 HX.out)
    go_ret
    exact ⟨rfl, HB.out⟩
  by_cases nle : bu ≤ le ∧ le ≤ 1024
  case neg =>
    have hw : IntKind.i64.wrap (2 * fa) = 2 * fa := by rw [IntKind.wrap_i64]; omega
    clear h
    obtain ⟨mfa, mfax⟩ := nfa
    obtain ⟨mbu, mbux⟩ := nbu
    go_enter Try.func35, Try.ntmps35
    go_upto_region 1 with fail
    have hx := heap_alloc_new W (.cells #[.int .i64 b, .int .i64 y, .int .i64 fr, .int .i64 fa, .int .i64 bu, .int .i64 le, .int .i64 ke, .int .i64 va] 23)
    have hb1 : Below W.heap.size W (W.alloc (.cells #[.int .i64 b, .int .i64 y, .int .i64 fr, .int .i64 fa, .int .i64 bu, .int .i64 le, .int .i64 ke, .int .i64 va] 23)) := (Below.refl _ _).alloc (Nat.le_refl _) _
    obtain ⟨g, hg⟩ : ∃ g, g = W.heap.size := ⟨_, rfl⟩
    generalize W.alloc (.cells #[.int .i64 b, .int .i64 y, .int .i64 fr, .int .i64 fa, .int .i64 bu, .int .i64 le, .int .i64 ke, .int .i64 va] 23) = w1 at *
    rw [← hg] at hx ⊢
    have HX := Lib.hid hx
    have HB := Lib.hid hb1
    obtain ⟨c0, c1, c2, c3, c4, c5, c6, c7⟩ := box8 hx
    clear hx hb1 hg
    go_wp2_with (go_at_call 36; (first | (refine (between_yes _ _ _ _ (by omega) (by omega)).mono ?_) | (refine (between_no _ _ _ _ (by omega)).mono ?_)); rintro e w' ⟨rfl, hb⟩; replace HX := Lib.hid (kept8 HX.out hb); replace HB := Lib.hid (bel2 HB.out hb); clear hb; obtain ⟨c0, c1, c2, c3, c4, c5, c6, c7⟩ := box8 HX.out)
    go_ret
    exact ⟨rfl, HB.out⟩
  by_cases nke : 1 ≤ ke ∧ ke ≤ 64
  case neg =>
    have hw : IntKind.i64.wrap (2 * fa) = 2 * fa := by rw [IntKind.wrap_i64]; omega
    clear h
    obtain ⟨mfa, mfax⟩ := nfa
    obtain ⟨mbu, mbux⟩ := nbu
    obtain ⟨mle, mlex⟩ := nle
    go_enter Try.func35, Try.ntmps35
    go_upto_region 1 with fail
    have hx := heap_alloc_new W (.cells #[.int .i64 b, .int .i64 y, .int .i64 fr, .int .i64 fa, .int .i64 bu, .int .i64 le, .int .i64 ke, .int .i64 va] 23)
    have hb1 : Below W.heap.size W (W.alloc (.cells #[.int .i64 b, .int .i64 y, .int .i64 fr, .int .i64 fa, .int .i64 bu, .int .i64 le, .int .i64 ke, .int .i64 va] 23)) := (Below.refl _ _).alloc (Nat.le_refl _) _
    obtain ⟨g, hg⟩ : ∃ g, g = W.heap.size := ⟨_, rfl⟩
    generalize W.alloc (.cells #[.int .i64 b, .int .i64 y, .int .i64 fr, .int .i64 fa, .int .i64 bu, .int .i64 le, .int .i64 ke, .int .i64 va] 23) = w1 at *
    rw [← hg] at hx ⊢
    have HX := Lib.hid hx
    have HB := Lib.hid hb1
    obtain ⟨c0, c1, c2, c3, c4, c5, c6, c7⟩ := box8 hx
    clear hx hb1 hg
    go_wp2_with (go_at_call 36; (first | (refine (between_yes _ _ _ _ (by omega) (by omega)).mono ?_) | (refine (between_no _ _ _ _ (by omega)).mono ?_)); rintro e w' ⟨rfl, hb⟩; replace HX := Lib.hid (kept8 HX.out hb); replace HB := Lib.hid (bel2 HB.out hb); clear hb; obtain ⟨c0, c1, c2, c3, c4, c5, c6, c7⟩ := box8 HX.out)
    go_ret
    exact ⟨rfl, HB.out⟩
  by_cases nva : 0 ≤ va ∧ va ≤ 256
  case neg =>
    have hw : IntKind.i64.wrap (2 * fa) = 2 * fa := by rw [IntKind.wrap_i64]; omega
    clear h
    obtain ⟨mfa, mfax⟩ := nfa
    obtain ⟨mbu, mbux⟩ := nbu
    obtain ⟨mle, mlex⟩ := nle
    obtain ⟨mke, mkex⟩ := nke
    go_enter Try.func35, Try.ntmps35
    go_upto_region 1 with fail
    have hx := heap_alloc_new W (.cells #[.int .i64 b, .int .i64 y, .int .i64 fr, .int .i64 fa, .int .i64 bu, .int .i64 le, .int .i64 ke, .int .i64 va] 23)
    have hb1 : Below W.heap.size W (W.alloc (.cells #[.int .i64 b, .int .i64 y, .int .i64 fr, .int .i64 fa, .int .i64 bu, .int .i64 le, .int .i64 ke, .int .i64 va] 23)) := (Below.refl _ _).alloc (Nat.le_refl _) _
    obtain ⟨g, hg⟩ : ∃ g, g = W.heap.size := ⟨_, rfl⟩
    generalize W.alloc (.cells #[.int .i64 b, .int .i64 y, .int .i64 fr, .int .i64 fa, .int .i64 bu, .int .i64 le, .int .i64 ke, .int .i64 va] 23) = w1 at *
    rw [← hg] at hx ⊢
    have HX := Lib.hid hx
    have HB := Lib.hid hb1
    obtain ⟨c0, c1, c2, c3, c4, c5, c6, c7⟩ := box8 hx
    clear hx hb1 hg
    go_wp2_with (go_at_call 36; (first | (refine (between_yes _ _ _ _ (by omega) (by omega)).mono ?_) | (refine (between_no _ _ _ _ (by omega)).mono ?_)); rintro e w' ⟨rfl, hb⟩; replace HX := Lib.hid (kept8 HX.out hb); replace HB := Lib.hid (bel2 HB.out hb); clear hb; obtain ⟨c0, c1, c2, c3, c4, c5, c6, c7⟩ := box8 HX.out)
    go_ret
    exact ⟨rfl, HB.out⟩
  exact absurd ⟨nfa, nbu, nle, nke, nva⟩ h
end Cf
end Go.Proofs.Yteefkhgmcknbaaa
