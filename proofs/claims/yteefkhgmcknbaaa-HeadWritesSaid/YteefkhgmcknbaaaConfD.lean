/-
  The document's settings: Sized.
-/
import Derived.Test.YteefkhgmcknbaaaChecked
import Derived.Test.YteefkhgmcknbaaaDrift
import Derived.WalkKit
import Derived.WalkLawsBesides
import Derived.KernelRfl
import Derived.WalkSpells
import Derived.BigQuiet
import Derived.Deep.DeepCutAuto
import Derived.Deep.CutBlock
import Derived.Lib.Hide
namespace Go.Proofs.Yteefkhgmcknbaaa
open Go.RowKit
namespace Cf
theorem box8 {w : World} {b : Nat} {v0 v1 v2 v3 v4 v5 v6 v7 : Value} {U : TypeId} (h : w.heap[b]? = some (.cells #[v0, v1, v2, v3, v4, v5, v6, v7] U (0, 0))) : w.cell? ⟨b, 0, none⟩ = some v0 ∧ w.cell? ⟨b, 1, none⟩ = some v1 ∧ w.cell? ⟨b, 2, none⟩ = some v2 ∧ w.cell? ⟨b, 3, none⟩ = some v3 ∧ w.cell? ⟨b, 4, none⟩ = some v4 ∧ w.cell? ⟨b, 5, none⟩ = some v5 ∧ w.cell? ⟨b, 6, none⟩ = some v6 ∧ w.cell? ⟨b, 7, none⟩ = some v7 := by
  simp [World.cell?, h]
theorem kept8 {w w' : World} {b : Nat} {o : Obj} (h : w.heap[b]? = some o) (hb : Below w.heap.size w w') : w'.heap[b]? = some o := (hb.block b (Array.getElem?_eq_some_iff.1 h).1).trans h
theorem bel2 {W w w' : World} (h : Below W.heap.size W w) (hb : Below w.heap.size w w') : Below W.heap.size W w' := h.trans (hb.mono h.size)
theorem in_yes (n lo hi : Int) (W : World) (h1 : lo ≤ n) (h2 : n ≤ hi) : Calls Try.prog 32 #[.int .i64 n, .int .i64 lo, .int .i64 hi] W fun e w' => e = .returned (.bool true) ∧ Below W.heap.size W w' := by
  go_enter Try.func32, Try.ntmps32
  go_wp2
  go_ret
  exact ⟨rfl, Below.refl _ _⟩
theorem in_no (n lo hi : Int) (W : World) (h : ¬ (lo ≤ n ∧ n ≤ hi)) : Calls Try.prog 32 #[.int .i64 n, .int .i64 lo, .int .i64 hi] W fun e w' => e = .returned (.bool false) ∧ Below W.heap.size W w' := by
  by_cases h1 : lo ≤ n
  · have h2 : decide (n ≤ hi) = false := by simp; omega
    clear h
    go_enter Try.func32, Try.ntmps32
    go_wp2
    go_ret
    exact ⟨rfl, Below.refl _ _⟩
  · have h1 : n < lo := by omega
    clear h
    go_enter Try.func32, Try.ntmps32
    go_wp2
    go_ret
    exact ⟨rfl, Below.refl _ _⟩
/-- the settings that say what a node may have are right -/
def Shape (fa bu le ke va : Int) : Prop := (8 ≤ fa ∧ fa ≤ 64) ∧ (2 * fa ≤ bu ∧ bu ≤ 512) ∧ (bu ≤ le ∧ le ≤ 1024) ∧ (1 ≤ ke ∧ ke ≤ 64) ∧ (0 ≤ va ∧ va ≤ 256)
set_option maxRecDepth 100000 in
set_option maxHeartbeats 2000000 in
theorem Sized_yes (b y fr fa bu le ke va : Int) (W : World) (h : Shape fa bu le ke va) : Calls Try.prog 31 #[.agg #[.int .i64 b, .int .i64 y, .int .i64 fr, .int .i64 fa, .int .i64 bu, .int .i64 le, .int .i64 ke, .int .i64 va]] W fun e w' => e = .returned (.bool true) ∧ Below W.heap.size W w' := by
  obtain ⟨⟨h1, h1'⟩, ⟨h2, h2'⟩, ⟨h3, h3'⟩, ⟨h4, h4'⟩, h5, h5'⟩ := h
  have hw : IntKind.i64.wrap (2 * fa) = 2 * fa := by rw [IntKind.wrap_i64]; omega
  go_enter Try.func31, Try.ntmps31
  go_upto_region 1 with fail
  have hx := heap_alloc_new W (.cells #[.int .i64 b, .int .i64 y, .int .i64 fr, .int .i64 fa, .int .i64 bu, .int .i64 le, .int .i64 ke, .int .i64 va] 23)
  have hb1 : Below W.heap.size W (W.alloc (.cells #[.int .i64 b, .int .i64 y, .int .i64 fr, .int .i64 fa, .int .i64 bu, .int .i64 le, .int .i64 ke, .int .i64 va] 23)) := (Below.refl _ _).alloc (Nat.le_refl _) _
  obtain ⟨g, hg⟩ : ∃ g, g = W.heap.size := ⟨_, rfl⟩
  generalize W.alloc (.cells #[.int .i64 b, .int .i64 y, .int .i64 fr, .int .i64 fa, .int .i64 bu, .int .i64 le, .int .i64 ke, .int .i64 va] 23) = w1 at *
  rw [← hg] at hx ⊢
  have HX := Lib.hid hx
  have HB := Lib.hid hb1
  obtain ⟨c0, c1, c2, c3, c4, c5, c6, c7⟩ := box8 hx
  clear hx hb1 hg
  go_wp2_with (go_at_call 32; (first | (refine (in_yes _ _ _ _ (by omega) (by omega)).mono ?_) | (refine (in_no _ _ _ _ (by omega)).mono ?_)); rintro e w' ⟨rfl, hb⟩; replace HX := Lib.hid (kept8 HX.out hb); replace HB := Lib.hid (bel2 HB.out hb); clear hb; obtain ⟨c0, c1, c2, c3, c4, c5, c6, c7⟩ := box8 HX.out)
  go_ret
  exact ⟨rfl, HB.out⟩
set_option maxRecDepth 100000 in
set_option maxHeartbeats 2000000 in
theorem Sized_no (b y fr fa bu le ke va : Int) (W : World) (h : ¬ Shape fa bu le ke va) : Calls Try.prog 31 #[.agg #[.int .i64 b, .int .i64 y, .int .i64 fr, .int .i64 fa, .int .i64 bu, .int .i64 le, .int .i64 ke, .int .i64 va]] W fun e w' => e = .returned (.bool false) ∧ Below W.heap.size W w' := by
  by_cases nfa : 8 ≤ fa ∧ fa ≤ 64
  case neg =>
    clear h
    go_enter Try.func31, Try.ntmps31
    go_upto_region 1 with fail
    have hx := heap_alloc_new W (.cells #[.int .i64 b, .int .i64 y, .int .i64 fr, .int .i64 fa, .int .i64 bu, .int .i64 le, .int .i64 ke, .int .i64 va] 23)
    have hb1 : Below W.heap.size W (W.alloc (.cells #[.int .i64 b, .int .i64 y, .int .i64 fr, .int .i64 fa, .int .i64 bu, .int .i64 le, .int .i64 ke, .int .i64 va] 23)) := (Below.refl _ _).alloc (Nat.le_refl _) _
    obtain ⟨g, hg⟩ : ∃ g, g = W.heap.size := ⟨_, rfl⟩
    generalize W.alloc (.cells #[.int .i64 b, .int .i64 y, .int .i64 fr, .int .i64 fa, .int .i64 bu, .int .i64 le, .int .i64 ke, .int .i64 va] 23) = w1 at *
    rw [← hg] at hx ⊢
    have HX := Lib.hid hx
    have HB := Lib.hid hb1
    obtain ⟨c0, c1, c2, c3, c4, c5, c6, c7⟩ := box8 hx
    clear hx hb1 hg
    go_wp2_with (go_at_call 32; (first | (refine (in_yes _ _ _ _ (by omega) (by omega)).mono ?_) | (refine (in_no _ _ _ _ (by omega)).mono ?_)); rintro e w' ⟨rfl, hb⟩; replace HX := Lib.hid (kept8 HX.out hb); replace HB := Lib.hid (bel2 HB.out hb); clear hb; obtain ⟨c0, c1, c2, c3, c4, c5, c6, c7⟩ := box8 HX.out)
    go_ret
    exact ⟨rfl, HB.out⟩
  by_cases nke : 1 ≤ ke ∧ ke ≤ 64
  case neg =>
    have hw : IntKind.i64.wrap (2 * fa) = 2 * fa := by rw [IntKind.wrap_i64]; omega
    clear h
    obtain ⟨mfa, mfax⟩ := nfa
    go_enter Try.func31, Try.ntmps31
    go_upto_region 1 with fail
    have hx := heap_alloc_new W (.cells #[.int .i64 b, .int .i64 y, .int .i64 fr, .int .i64 fa, .int .i64 bu, .int .i64 le, .int .i64 ke, .int .i64 va] 23)
    have hb1 : Below W.heap.size W (W.alloc (.cells #[.int .i64 b, .int .i64 y, .int .i64 fr, .int .i64 fa, .int .i64 bu, .int .i64 le, .int .i64 ke, .int .i64 va] 23)) := (Below.refl _ _).alloc (Nat.le_refl _) _
    obtain ⟨g, hg⟩ : ∃ g, g = W.heap.size := ⟨_, rfl⟩
    generalize W.alloc (.cells #[.int .i64 b, .int .i64 y, .int .i64 fr, .int .i64 fa, .int .i64 bu, .int .i64 le, .int .i64 ke, .int .i64 va] 23) = w1 at *
    rw [← hg] at hx ⊢
    have HX := Lib.hid hx
    have HB := Lib.hid hb1
    obtain ⟨c0, c1, c2, c3, c4, c5, c6, c7⟩ := box8 hx
    clear hx hb1 hg
    go_wp2_with (go_at_call 32; (first | (refine (in_yes _ _ _ _ (by omega) (by omega)).mono ?_) | (refine (in_no _ _ _ _ (by omega)).mono ?_)); rintro e w' ⟨rfl, hb⟩; replace HX := Lib.hid (kept8 HX.out hb); replace HB := Lib.hid (bel2 HB.out hb); clear hb; obtain ⟨c0, c1, c2, c3, c4, c5, c6, c7⟩ := box8 HX.out)
    go_ret
    exact ⟨rfl, HB.out⟩
  by_cases nva : 0 ≤ va ∧ va ≤ 256
  case neg =>
    have hw : IntKind.i64.wrap (2 * fa) = 2 * fa := by rw [IntKind.wrap_i64]; omega
    clear h
    obtain ⟨mfa, mfax⟩ := nfa
    obtain ⟨mke, mkex⟩ := nke
    go_enter Try.func31, Try.ntmps31
    go_upto_region 1 with fail
    have hx := heap_alloc_new W (.cells #[.int .i64 b, .int .i64 y, .int .i64 fr, .int .i64 fa, .int .i64 bu, .int .i64 le, .int .i64 ke, .int .i64 va] 23)
    have hb1 : Below W.heap.size W (W.alloc (.cells #[.int .i64 b, .int .i64 y, .int .i64 fr, .int .i64 fa, .int .i64 bu, .int .i64 le, .int .i64 ke, .int .i64 va] 23)) := (Below.refl _ _).alloc (Nat.le_refl _) _
    obtain ⟨g, hg⟩ : ∃ g, g = W.heap.size := ⟨_, rfl⟩
    generalize W.alloc (.cells #[.int .i64 b, .int .i64 y, .int .i64 fr, .int .i64 fa, .int .i64 bu, .int .i64 le, .int .i64 ke, .int .i64 va] 23) = w1 at *
    rw [← hg] at hx ⊢
    have HX := Lib.hid hx
    have HB := Lib.hid hb1
    obtain ⟨c0, c1, c2, c3, c4, c5, c6, c7⟩ := box8 hx
    clear hx hb1 hg
    go_wp2_with (go_at_call 32; (first | (refine (in_yes _ _ _ _ (by omega) (by omega)).mono ?_) | (refine (in_no _ _ _ _ (by omega)).mono ?_)); rintro e w' ⟨rfl, hb⟩; replace HX := Lib.hid (kept8 HX.out hb); replace HB := Lib.hid (bel2 HB.out hb); clear hb; obtain ⟨c0, c1, c2, c3, c4, c5, c6, c7⟩ := box8 HX.out)
    go_ret
    exact ⟨rfl, HB.out⟩
  by_cases nbu : 2 * fa ≤ bu ∧ bu ≤ 512
  case neg =>
    have hw : IntKind.i64.wrap (2 * fa) = 2 * fa := by rw [IntKind.wrap_i64]; omega
    clear h
    obtain ⟨mfa, mfax⟩ := nfa
    obtain ⟨mke, mkex⟩ := nke
    obtain ⟨mva, mvax⟩ := nva
    go_enter Try.func31, Try.ntmps31
    go_upto_region 1 with fail
    have hx := heap_alloc_new W (.cells #[.int .i64 b, .int .i64 y, .int .i64 fr, .int .i64 fa, .int .i64 bu, .int .i64 le, .int .i64 ke, .int .i64 va] 23)
    have hb1 : Below W.heap.size W (W.alloc (.cells #[.int .i64 b, .int .i64 y, .int .i64 fr, .int .i64 fa, .int .i64 bu, .int .i64 le, .int .i64 ke, .int .i64 va] 23)) := (Below.refl _ _).alloc (Nat.le_refl _) _
    obtain ⟨g, hg⟩ : ∃ g, g = W.heap.size := ⟨_, rfl⟩
    generalize W.alloc (.cells #[.int .i64 b, .int .i64 y, .int .i64 fr, .int .i64 fa, .int .i64 bu, .int .i64 le, .int .i64 ke, .int .i64 va] 23) = w1 at *
    rw [← hg] at hx ⊢
    have HX := Lib.hid hx
    have HB := Lib.hid hb1
    obtain ⟨c0, c1, c2, c3, c4, c5, c6, c7⟩ := box8 hx
    clear hx hb1 hg
    go_wp2_with (go_at_call 32; (first | (refine (in_yes _ _ _ _ (by omega) (by omega)).mono ?_) | (refine (in_no _ _ _ _ (by omega)).mono ?_)); rintro e w' ⟨rfl, hb⟩; replace HX := Lib.hid (kept8 HX.out hb); replace HB := Lib.hid (bel2 HB.out hb); clear hb; obtain ⟨c0, c1, c2, c3, c4, c5, c6, c7⟩ := box8 HX.out)
    go_ret
    exact ⟨rfl, HB.out⟩
  by_cases nle : bu ≤ le ∧ le ≤ 1024
  case neg =>
    have hw : IntKind.i64.wrap (2 * fa) = 2 * fa := by rw [IntKind.wrap_i64]; omega
    clear h
    obtain ⟨mfa, mfax⟩ := nfa
    obtain ⟨mke, mkex⟩ := nke
    obtain ⟨mva, mvax⟩ := nva
    obtain ⟨mbu, mbux⟩ := nbu
    go_enter Try.func31, Try.ntmps31
    go_upto_region 1 with fail
    have hx := heap_alloc_new W (.cells #[.int .i64 b, .int .i64 y, .int .i64 fr, .int .i64 fa, .int .i64 bu, .int .i64 le, .int .i64 ke, .int .i64 va] 23)
    have hb1 : Below W.heap.size W (W.alloc (.cells #[.int .i64 b, .int .i64 y, .int .i64 fr, .int .i64 fa, .int .i64 bu, .int .i64 le, .int .i64 ke, .int .i64 va] 23)) := (Below.refl _ _).alloc (Nat.le_refl _) _
    obtain ⟨g, hg⟩ : ∃ g, g = W.heap.size := ⟨_, rfl⟩
    generalize W.alloc (.cells #[.int .i64 b, .int .i64 y, .int .i64 fr, .int .i64 fa, .int .i64 bu, .int .i64 le, .int .i64 ke, .int .i64 va] 23) = w1 at *
    rw [← hg] at hx ⊢
    have HX := Lib.hid hx
    have HB := Lib.hid hb1
    obtain ⟨c0, c1, c2, c3, c4, c5, c6, c7⟩ := box8 hx
    clear hx hb1 hg
    go_wp2_with (go_at_call 32; (first | (refine (in_yes _ _ _ _ (by omega) (by omega)).mono ?_) | (refine (in_no _ _ _ _ (by omega)).mono ?_)); rintro e w' ⟨rfl, hb⟩; replace HX := Lib.hid (kept8 HX.out hb); replace HB := Lib.hid (bel2 HB.out hb); clear hb; obtain ⟨c0, c1, c2, c3, c4, c5, c6, c7⟩ := box8 HX.out)
    go_ret
    exact ⟨rfl, HB.out⟩
  exact absurd ⟨nfa, nbu, nle, nke, nva⟩ h
end Cf
end Go.Proofs.Yteefkhgmcknbaaa
