/-
  Conf, CodeD1, CodeD2, CodeD3. Put together by pack.py.
-/
import Derived.Test.YtgpbioljldkmaaaPkAG
import Derived.Test.YtgpbioljldkmaaaChecked
import Derived.Test.YtgpbioljldkmaaaPqDrift
import Derived.WalkKit
import Derived.WalkLawsBesides
import Derived.KernelRfl
import Derived.WalkSpells
import Derived.BigQuiet
import Derived.Deep.DeepCutAuto
import Derived.Deep.CutBlock
import Derived.Lib.Hide
import Derived.Test.YtgpbioljldkmaaaPkAH
import Derived.Test.YtgpbioljldkmaaaPkAB
import Derived.Test.YtgpbioljldkmaaaPkAC
import Derived.Test.YtgpbioljldkmaaaPkAI

namespace Go.Proofs.Ytgpbioljldkmaaa
open Go.RowKit
namespace Cf

theorem between_yes (lo n hi : Int) (W : World) (h1 : lo ≤ n) (h2 : n ≤ hi) : Calls Try.prog 19 #[.int .i64 lo, .int .i64 n, .int .i64 hi] W fun e w' => e = .returned (.bool true) ∧ Below W.heap.size W w' := by
  go_enter Try.func19, Try.ntmps19
  go_wp2
  go_ret
  exact ⟨rfl, Below.refl _ _⟩
theorem between_no (lo n hi : Int) (W : World) (h : ¬ (lo ≤ n ∧ n ≤ hi)) : Calls Try.prog 19 #[.int .i64 lo, .int .i64 n, .int .i64 hi] W fun e w' => e = .returned (.bool false) ∧ Below W.heap.size W w' := by
  by_cases h1 : lo ≤ n
  · have h2 : decide (n ≤ hi) = false := by simp; omega
    clear h
    go_enter Try.func19, Try.ntmps19
    go_wp2
    go_ret
    exact ⟨rfl, Below.refl _ _⟩
  · have h1 : n < lo := by omega
    clear h
    go_enter Try.func19, Try.ntmps19
    go_wp2
    go_ret
    exact ⟨rfl, Below.refl _ _⟩
set_option maxRecDepth 100000 in
set_option maxHeartbeats 2000000 in
theorem isShaped_yes (b y fr fa bu le ke va : Int) (W : World) (h : Shape fa bu le ke va) : Calls Try.prog 18 #[.agg #[.int .i64 b, .int .i64 y, .int .i64 fr, .int .i64 fa, .int .i64 bu, .int .i64 le, .int .i64 ke, .int .i64 va]] W fun e w' => e = .returned (.bool true) ∧ Below W.heap.size W w' := by
  obtain ⟨⟨h1, h1'⟩, ⟨h2, h2'⟩, ⟨h3, h3'⟩, ⟨h4, h4'⟩, h5, h5'⟩ := h
  have hw : IntKind.i64.wrap (2 * fa) = 2 * fa := by rw [IntKind.wrap_i64]; omega
  go_enter Try.func18, Try.ntmps18
  go_upto_region 1 with fail
  have hx := heap_alloc_new W (.cells #[.int .i64 b, .int .i64 y, .int .i64 fr, .int .i64 fa, .int .i64 bu, .int .i64 le, .int .i64 ke, .int .i64 va] 23)
  have hb1 : Below W.heap.size W (W.alloc (.cells #[.int .i64 b, .int .i64 y, .int .i64 fr, .int .i64 fa, .int .i64 bu, .int .i64 le, .int .i64 ke, .int .i64 va] 23)) := (Below.refl _ _).alloc (Nat.le_refl _) _
  obtain ⟨g, hg⟩ : ∃ g, g = W.heap.size := ⟨_, rfl⟩
  generalize W.alloc (.cells #[.int .i64 b, .int .i64 y, .int .i64 fr, .int .i64 fa, .int .i64 bu, .int .i64 le, .int .i64 ke, .int .i64 va] 23) = w1 at *
  rw [← hg] at hx ⊢
  have HX := Lib.hid hx
  have HB := Lib.hid hb1
  obtain ⟨c0, c1, c2, c3, c4, c5, c6, c7⟩ := box8 hx
  clear hx hb1 hg
  go_wp2_with (go_at_call 19; (first | (refine (between_yes _ _ _ _ (by omega) (by omega)).mono ?_) | (refine (between_no _ _ _ _ (by omega)).mono ?_)); rintro e w' ⟨rfl, hb⟩; replace HX := Lib.hid (kept8 HX.out hb); replace HB := Lib.hid (bel2 HB.out hb); clear hb; obtain ⟨c0, c1, c2, c3, c4, c5, c6, c7⟩ := box8 HX.out)
  go_ret
  exact ⟨rfl, HB.out⟩
set_option maxRecDepth 100000 in
set_option maxHeartbeats 2000000 in
theorem isShaped_no (b y fr fa bu le ke va : Int) (W : World) (h : ¬ Shape fa bu le ke va) : Calls Try.prog 18 #[.agg #[.int .i64 b, .int .i64 y, .int .i64 fr, .int .i64 fa, .int .i64 bu, .int .i64 le, .int .i64 ke, .int .i64 va]] W fun e w' => e = .returned (.bool false) ∧ Below W.heap.size W w' := by
  by_cases nfa : 8 ≤ fa ∧ fa ≤ 64
  case neg =>
    clear h
    go_enter Try.func18, Try.ntmps18
    go_upto_region 1 with fail
    have hx := heap_alloc_new W (.cells #[.int .i64 b, .int .i64 y, .int .i64 fr, .int .i64 fa, .int .i64 bu, .int .i64 le, .int .i64 ke, .int .i64 va] 23)
    have hb1 : Below W.heap.size W (W.alloc (.cells #[.int .i64 b, .int .i64 y, .int .i64 fr, .int .i64 fa, .int .i64 bu, .int .i64 le, .int .i64 ke, .int .i64 va] 23)) := (Below.refl _ _).alloc (Nat.le_refl _) _
    obtain ⟨g, hg⟩ : ∃ g, g = W.heap.size := ⟨_, rfl⟩
    generalize W.alloc (.cells #[.int .i64 b, .int .i64 y, .int .i64 fr, .int .i64 fa, .int .i64 bu, .int .i64 le, .int .i64 ke, .int .i64 va] 23) = w1 at *
    rw [← hg] at hx ⊢
    have HX := Lib.hid hx
    have HB := Lib.hid hb1
    obtain ⟨c0, c1, c2, c3, c4, c5, c6, c7⟩ := box8 hx
    clear hx hb1 hg
    go_wp2_with (go_at_call 19; (first | (refine (between_yes _ _ _ _ (by omega) (by omega)).mono ?_) | (refine (between_no _ _ _ _ (by omega)).mono ?_)); rintro e w' ⟨rfl, hb⟩; replace HX := Lib.hid (kept8 HX.out hb); replace HB := Lib.hid (bel2 HB.out hb); clear hb; obtain ⟨c0, c1, c2, c3, c4, c5, c6, c7⟩ := box8 HX.out)
    go_ret
    exact ⟨rfl, HB.out⟩
  by_cases nbu : 2 * fa ≤ bu ∧ bu ≤ 512
  case neg =>
    have hw : IntKind.i64.wrap (2 * fa) = 2 * fa := by rw [IntKind.wrap_i64]; omega
    clear h
    obtain ⟨mfa, mfax⟩ := nfa
    go_enter Try.func18, Try.ntmps18
    go_upto_region 1 with fail
    have hx := heap_alloc_new W (.cells #[.int .i64 b, .int .i64 y, .int .i64 fr, .int .i64 fa, .int .i64 bu, .int .i64 le, .int .i64 ke, .int .i64 va] 23)
    have hb1 : Below W.heap.size W (W.alloc (.cells #[.int .i64 b, .int .i64 y, .int .i64 fr, .int .i64 fa, .int .i64 bu, .int .i64 le, .int .i64 ke, .int .i64 va] 23)) := (Below.refl _ _).alloc (Nat.le_refl _) _
    obtain ⟨g, hg⟩ : ∃ g, g = W.heap.size := ⟨_, rfl⟩
    generalize W.alloc (.cells #[.int .i64 b, .int .i64 y, .int .i64 fr, .int .i64 fa, .int .i64 bu, .int .i64 le, .int .i64 ke, .int .i64 va] 23) = w1 at *
    rw [← hg] at hx ⊢
    have HX := Lib.hid hx
    have HB := Lib.hid hb1
    obtain ⟨c0, c1, c2, c3, c4, c5, c6, c7⟩ := box8 hx
    clear hx hb1 hg
    go_wp2_with (go_at_call 19; (first | (refine (between_yes _ _ _ _ (by omega) (by omega)).mono ?_) | (refine (between_no _ _ _ _ (by omega)).mono ?_)); rintro e w' ⟨rfl, hb⟩; replace HX := Lib.hid (kept8 HX.out hb); replace HB := Lib.hid (bel2 HB.out hb); clear hb; obtain ⟨c0, c1, c2, c3, c4, c5, c6, c7⟩ := box8 HX.out)
    go_ret
    exact ⟨rfl, HB.out⟩
  by_cases nle : bu ≤ le ∧ le ≤ 1024
  case neg =>
    have hw : IntKind.i64.wrap (2 * fa) = 2 * fa := by rw [IntKind.wrap_i64]; omega
    clear h
    obtain ⟨mfa, mfax⟩ := nfa
    obtain ⟨mbu, mbux⟩ := nbu
    go_enter Try.func18, Try.ntmps18
    go_upto_region 1 with fail
    have hx := heap_alloc_new W (.cells #[.int .i64 b, .int .i64 y, .int .i64 fr, .int .i64 fa, .int .i64 bu, .int .i64 le, .int .i64 ke, .int .i64 va] 23)
    have hb1 : Below W.heap.size W (W.alloc (.cells #[.int .i64 b, .int .i64 y, .int .i64 fr, .int .i64 fa, .int .i64 bu, .int .i64 le, .int .i64 ke, .int .i64 va] 23)) := (Below.refl _ _).alloc (Nat.le_refl _) _
    obtain ⟨g, hg⟩ : ∃ g, g = W.heap.size := ⟨_, rfl⟩
    generalize W.alloc (.cells #[.int .i64 b, .int .i64 y, .int .i64 fr, .int .i64 fa, .int .i64 bu, .int .i64 le, .int .i64 ke, .int .i64 va] 23) = w1 at *
    rw [← hg] at hx ⊢
    have HX := Lib.hid hx
    have HB := Lib.hid hb1
    obtain ⟨c0, c1, c2, c3, c4, c5, c6, c7⟩ := box8 hx
    clear hx hb1 hg
    go_wp2_with (go_at_call 19; (first | (refine (between_yes _ _ _ _ (by omega) (by omega)).mono ?_) | (refine (between_no _ _ _ _ (by omega)).mono ?_)); rintro e w' ⟨rfl, hb⟩; replace HX := Lib.hid (kept8 HX.out hb); replace HB := Lib.hid (bel2 HB.out hb); clear hb; obtain ⟨c0, c1, c2, c3, c4, c5, c6, c7⟩ := box8 HX.out)
    go_ret
    exact ⟨rfl, HB.out⟩
  by_cases nke : 1 ≤ ke ∧ ke ≤ 64
  case neg =>
    have hw : IntKind.i64.wrap (2 * fa) = 2 * fa := by rw [IntKind.wrap_i64]; omega
    clear h
    obtain ⟨mfa, mfax⟩ := nfa
    obtain ⟨mbu, mbux⟩ := nbu
    obtain ⟨mle, mlex⟩ := nle
    go_enter Try.func18, Try.ntmps18
    go_upto_region 1 with fail
    have hx := heap_alloc_new W (.cells #[.int .i64 b, .int .i64 y, .int .i64 fr, .int .i64 fa, .int .i64 bu, .int .i64 le, .int .i64 ke, .int .i64 va] 23)
    have hb1 : Below W.heap.size W (W.alloc (.cells #[.int .i64 b, .int .i64 y, .int .i64 fr, .int .i64 fa, .int .i64 bu, .int .i64 le, .int .i64 ke, .int .i64 va] 23)) := (Below.refl _ _).alloc (Nat.le_refl _) _
    obtain ⟨g, hg⟩ : ∃ g, g = W.heap.size := ⟨_, rfl⟩
    generalize W.alloc (.cells #[.int .i64 b, .int .i64 y, .int .i64 fr, .int .i64 fa, .int .i64 bu, .int .i64 le, .int .i64 ke, .int .i64 va] 23) = w1 at *
    rw [← hg] at hx ⊢
    have HX := Lib.hid hx
    have HB := Lib.hid hb1
    obtain ⟨c0, c1, c2, c3, c4, c5, c6, c7⟩ := box8 hx
    clear hx hb1 hg
    go_wp2_with (go_at_call 19; (first | (refine (between_yes _ _ _ _ (by omega) (by omega)).mono ?_) | (refine (between_no _ _ _ _ (by omega)).mono ?_)); rintro e w' ⟨rfl, hb⟩; replace HX := Lib.hid (kept8 HX.out hb); replace HB := Lib.hid (bel2 HB.out hb); clear hb; obtain ⟨c0, c1, c2, c3, c4, c5, c6, c7⟩ := box8 HX.out)
    go_ret
    exact ⟨rfl, HB.out⟩
  by_cases nva : 0 ≤ va ∧ va ≤ 256
  case neg =>
    have hw : IntKind.i64.wrap (2 * fa) = 2 * fa := by rw [IntKind.wrap_i64]; omega
    clear h
    obtain ⟨mfa, mfax⟩ := nfa
    obtain ⟨mbu, mbux⟩ := nbu
    obtain ⟨mle, mlex⟩ := nle
    obtain ⟨mke, mkex⟩ := nke
    go_enter Try.func18, Try.ntmps18
    go_upto_region 1 with fail
    have hx := heap_alloc_new W (.cells #[.int .i64 b, .int .i64 y, .int .i64 fr, .int .i64 fa, .int .i64 bu, .int .i64 le, .int .i64 ke, .int .i64 va] 23)
    have hb1 : Below W.heap.size W (W.alloc (.cells #[.int .i64 b, .int .i64 y, .int .i64 fr, .int .i64 fa, .int .i64 bu, .int .i64 le, .int .i64 ke, .int .i64 va] 23)) := (Below.refl _ _).alloc (Nat.le_refl _) _
    obtain ⟨g, hg⟩ : ∃ g, g = W.heap.size := ⟨_, rfl⟩
    generalize W.alloc (.cells #[.int .i64 b, .int .i64 y, .int .i64 fr, .int .i64 fa, .int .i64 bu, .int .i64 le, .int .i64 ke, .int .i64 va] 23) = w1 at *
    rw [← hg] at hx ⊢
    have HX := Lib.hid hx
    have HB := Lib.hid hb1
    obtain ⟨c0, c1, c2, c3, c4, c5, c6, c7⟩ := box8 hx
    clear hx hb1 hg
    go_wp2_with (go_at_call 19; (first | (refine (between_yes _ _ _ _ (by omega) (by omega)).mono ?_) | (refine (between_no _ _ _ _ (by omega)).mono ?_)); rintro e w' ⟨rfl, hb⟩; replace HX := Lib.hid (kept8 HX.out hb); replace HB := Lib.hid (bel2 HB.out hb); clear hb; obtain ⟨c0, c1, c2, c3, c4, c5, c6, c7⟩ := box8 HX.out)
    go_ret
    exact ⟨rfl, HB.out⟩
  exact absurd ⟨nfa, nbu, nle, nke, nva⟩ h
end Cf
end Go.Proofs.Ytgpbioljldkmaaa

namespace Go.Proofs.Ytgpbioljldkmaaa
open Go.RowKit
namespace No
open Mem Lx Bu Lf Fa
open Wd (be val be_length val_be isW St takeS numS zerosS textS spoilS zeroB take_spoilt take_some take_short take_ok spoil_ok)
section
variable {s : St}
theorem take_inv (h : s.ok) {n : Int} (h0 : 0 ≤ n) (he : (takeS s n).1.e = 0) : s.e = 0 ∧ (takeS s n).2.length = n.toNat ∧ s.b = (takeS s n).2 ++ (takeS s n).1.b := by
  by_cases h1 : s.e = 0
  · by_cases h2 : (s.b.length : Int) < n
    · rw [take_short s (by omega) h2] at he
      unfold spoilS at he
      rw [if_pos h1] at he
      cases he
    · rw [take_some s (by omega) h2]
      refine ⟨h1, ?_, (List.take_append_drop _ _).symm⟩
      rw [List.length_take]
      omega
  · rw [take_spoilt h h1] at he
    exact absurd he h1
theorem take_fwd {x R : List UInt8} {n : Int} (hn : n = x.length) : takeS ⟨x ++ R, 0⟩ n = (⟨R, 0⟩, x) := by
  subst hn
  rw [take_some _ (by omega) (by simp only [List.length_append]; omega)]
  simp
theorem num_ok (h : s.ok) (n : Int) : (numS s n).1.ok := by
  unfold numS
  split
  · exact take_ok h n
  · exact spoil_ok h _
theorem zeros_ok (h : s.ok) (n : Int) : (zerosS s n).ok := by
  unfold zerosS
  split
  · exact take_ok h n
  · exact spoil_ok (take_ok h n) _
theorem text_ok (h : s.ok) (n m : Int) : (textS s n m).1.ok := by
  unfold textS
  split
  · exact spoil_ok h _
  · split
    · exact take_ok h m
    · split
      · exact take_ok h m
      · exact spoil_ok (take_ok h m) _
theorem num_inv (h : s.ok) {w : Nat} (hw : isW (w : Int) = true) (he : (numS s w).1.e = 0) : s.e = 0 ∧ s.b = be w (numS s w).2 ++ (numS s w).1.b ∧ (numS s w).2 < 256 ^ w := by
  have e : numS s w = ((takeS s w).1, val (takeS s w).2) := by
    unfold numS
    rw [if_pos hw]
  rw [e] at he ⊢
  obtain ⟨h1, h2, h3⟩ := take_inv h (by omega) he
  have h4 : (takeS s (w : Int)).2.length = w := h2
  have h5 := Wd.be_val (takeS s (w : Int)).2
  have h6 := Wd.val_lt (takeS s (w : Int)).2
  rw [h4] at h5 h6
  refine ⟨h1, ?_, h6⟩
  show s.b = be w (val (takeS s w).2) ++ (takeS s w).1.b
  rw [h5]
  exact h3
theorem num_fwd {w v : Nat} {R : List UInt8} (hw : isW (w : Int) = true) (hv : v < 256 ^ w) : numS ⟨be w v ++ R, 0⟩ w = (⟨R, 0⟩, v) := by
  unfold numS
  rw [if_pos hw, take_fwd (by rw [be_length])]
  simp only
  rw [val_be, Nat.mod_eq_of_lt hv]
theorem zero_zs {l : List UInt8} (h : zeroB l = true) {n : Int} (hn : l.length = n.toNat) : l = zs n := by
  unfold zs
  rw [List.eq_replicate_iff]
  refine ⟨hn, fun x hx => ?_⟩
  unfold zeroB at h
  simpa using List.all_eq_true.1 h x hx
theorem zs_zero (n : Int) : zeroB (zs n) = true := by
  unfold zeroB zs
  rw [List.all_eq_true]
  intro x hx
  rw [List.eq_of_mem_replicate hx]
  rfl
theorem zeros_inv (h : s.ok) {n : Int} (h0 : 0 ≤ n) (he : (zerosS s n).e = 0) : s.e = 0 ∧ s.b = zs n ++ (zerosS s n).b := by
  unfold zerosS at he ⊢
  split at he
  · rename_i h1
    rw [if_pos h1]
    obtain ⟨h2, h3, h4⟩ := take_inv h h0 he
    rw [← zero_zs h1 h3]
    exact ⟨h2, h4⟩
  · unfold spoilS at he
    split at he
    · cases he
    · rename_i h2
      exact absurd he h2
theorem zeros_fwd {n : Int} {R : List UInt8} (h0 : 0 ≤ n) : zerosS ⟨zs n ++ R, 0⟩ n = ⟨R, 0⟩ := by
  unfold zerosS
  rw [take_fwd (by rw [zs_len]; omega)]
  simp only
  rw [if_pos (zs_zero n)]
theorem text_inv (h : s.ok) {n m : Int} (he : (textS s n m).1.e = 0) : s.e = 0 ∧ 0 ≤ n ∧ n ≤ m ∧ (textS s n m).2.length = n.toNat ∧ s.b = slotL (textS s n m).2 m ++ (textS s n m).1.b := by
  unfold textS at he ⊢
  split at he
  · by_cases h1 : s.e = 0
    · unfold spoilS at he
      rw [if_pos h1] at he
      cases he
    · unfold spoilS at he
      rw [if_neg h1] at he
      exact absurd he h1
  · rename_i h1
    rw [if_neg h1]
    have h0 : 0 ≤ n ∧ n ≤ m := by omega
    split at he
    · rename_i h2
      obtain ⟨h3, h4, -⟩ := take_inv h (by omega) he
      rw [h4] at h2
      omega
    · rename_i h2
      rw [if_neg h2]
      split at he
      · rename_i h5
        rw [if_pos h5]
        obtain ⟨h3, h4, h6⟩ := take_inv h (by omega) he
        have h7 : ((takeS s m).2.take n.toNat).length = n.toNat := by
          rw [List.length_take, h4]
          omega
        refine ⟨h3, h0.1, h0.2, h7, ?_⟩
        simp only
        unfold slotL
        have h8 : (takeS s m).2.drop n.toNat = zs (m - n) := zero_zs h5 (by rw [List.length_drop, h4]; omega)
        rw [h7, show m - ((n.toNat : Nat) : Int) = m - n by omega, ← h8, List.take_append_drop]
        exact h6
      · unfold spoilS at he
        split at he
        · cases he
        · rename_i h6
          exact absurd he h6
theorem text_fwd {t R : List UInt8} {n m : Int} (hn : n = t.length) (hm : n ≤ m) : textS ⟨slotL t m ++ R, 0⟩ n m = (⟨R, 0⟩, t) := by
  have hl : (slotL t m).length = m.toNat := slotL_len (by omega)
  have ht : takeS ⟨slotL t m ++ R, 0⟩ m = (⟨R, 0⟩, slotL t m) := take_fwd (by rw [hl]; omega)
  unfold textS
  rw [if_neg (by omega), ht]
  simp only
  rw [if_neg (by rw [hl]; omega)]
  have hd : (slotL t m).drop n.toNat = zs (m - t.length) := by
    unfold slotL
    exact List.drop_left' (by omega)
  have hk : (slotL t m).take n.toNat = t := by
    unfold slotL
    exact List.take_left' (by omega)
  rw [hd, if_pos (zs_zero _), hk]
end
/-! ### lists of pieces -/
def rdS {α : Type} (f : St → St × α) : Nat → St → St × List α
  | 0, s => (s, [])
  | k + 1, s => ((f (rdS f k s).1).1, (rdS f k s).2 ++ [(f (rdS f k s).1).2])
section
variable {α : Type} {f : St → St × α} {g : α → List UInt8}
theorem rdS_len (k : Nat) (s : St) : (rdS f k s).2.length = k := by
  induction k with
  | zero => rfl
  | succ k ih => simp [rdS, ih]
theorem rdS_ok (hf : ∀ s, s.ok → (f s).1.ok) {s : St} (h : s.ok) (k : Nat) : (rdS f k s).1.ok := by
  induction k with
  | zero => exact h
  | succ k ih => exact hf _ ih
theorem rdS_inv {P : α → Prop} (hf : ∀ s, s.ok → (f s).1.ok) (hi : ∀ s, s.ok → (f s).1.e = 0 → s.e = 0 ∧ s.b = g (f s).2 ++ (f s).1.b ∧ P (f s).2) {s : St} (h : s.ok) {k : Nat} (he : (rdS f k s).1.e = 0) : s.e = 0 ∧ s.b = (rdS f k s).2.flatMap g ++ (rdS f k s).1.b ∧ ∀ x ∈ (rdS f k s).2, P x := by
  induction k with
  | zero => exact ⟨he, by simp [rdS], by simp [rdS]⟩
  | succ k ih =>
    obtain ⟨h1, h2, h3⟩ := hi _ (rdS_ok hf h k) he
    obtain ⟨h4, h5, h6⟩ := ih h1
    refine ⟨h4, ?_, fun x hx => ?_⟩
    · show s.b = ((rdS f k s).2 ++ [(f (rdS f k s).1).2]).flatMap g ++ (f (rdS f k s).1).1.b
      rw [List.flatMap_append, h5, h2]
      simp
    · rcases List.mem_append.1 hx with hx | hx
      · exact h6 x hx
      · obtain rfl := List.mem_singleton.1 hx
        exact h3
theorem rdS_fwd {R : List UInt8} {L : List α} (hf : ∀ x ∈ L, ∀ R, f ⟨g x ++ R, 0⟩ = (⟨R, 0⟩, x)) : rdS f L.length ⟨L.flatMap g ++ R, 0⟩ = (⟨R, 0⟩, L) := by
  suffices h : ∀ k, k ≤ L.length → rdS f k ⟨L.flatMap g ++ R, 0⟩ = (⟨(L.drop k).flatMap g ++ R, 0⟩, L.take k) by
    have := h L.length (Nat.le_refl _)
    simpa using this
  intro k
  induction k with
  | zero => intro _; simp [rdS]
  | succ k ih =>
    intro hk
    have h1 := ih (by omega)
    have hx : L.drop k = L[k] :: L.drop (k + 1) := List.drop_eq_getElem_cons (by omega)
    show ((f (rdS f k _).1).1, (rdS f k _).2 ++ [(f (rdS f k _).1).2]) = _
    rw [h1]
    simp only
    rw [hx, List.flatMap_cons, List.append_assoc, hf _ (List.getElem_mem _)]
    simp only
    rw [List.take_succ_eq_append_getElem (by omega)]
end
/-! ### the pieces -/
def rdPr (c : Cfg) (s : St) : St × Pr :=
  ((textS (textS (numS (numS s 1).1 2).1 (numS s 1).2 c.key).1 (numS (numS s 1).1 2).2 c.val).1,
   strOf (textS (numS (numS s 1).1 2).1 (numS s 1).2 c.key).2, strOf (textS (textS (numS (numS s 1).1 2).1 (numS s 1).2 c.key).1 (numS (numS s 1).1 2).2 c.val).2)
def rdK (s : St) : St × Nat := numS s 4
def rdPv (c : Cfg) (s : St) : St × ByteArray := ((textS (numS s 1).1 (numS s 1).2 c.key).1, strOf (textS (numS s 1).1 (numS s 1).2 c.key).2)
/-- a message, behind its mark -/
def rdMs (c : Cfg) (s : St) : St × (Nat × Mg) := ((rdPr c (numS s 1).1).1, (numS s 1).2, (rdPr c (numS s 1).1).2.1, decide ((numS s 1).2 = 2), (rdPr c (numS s 1).1).2.2)
def prB (c : Cfg) (x : Pr) : List UInt8 := pairL c x.1 x.2
def mkL (c : Cfg) (x : Nat × Mg) : List UInt8 := be 1 x.1 ++ pairL c x.2.1 x.2.2.2
section
variable {c : Cfg} {s : St}
theorem rdPr_ok (h : s.ok) : (rdPr c s).1.ok := text_ok (text_ok (num_ok (num_ok h _) _) _ _) _ _
theorem rdK_ok (h : s.ok) : (rdK s).1.ok := num_ok h _
theorem rdPv_ok (h : s.ok) : (rdPv c s).1.ok := text_ok (num_ok h _) _ _
theorem rdMs_ok (h : s.ok) : (rdMs c s).1.ok := rdPr_ok (num_ok h _)
theorem sized {t : List UInt8} {n : Nat} (h : t.length = ((n : Nat) : Int).toNat) : (strOf t).size = n := by
  rw [strOf_size, h]
  rfl
theorem rdPr_inv (h : s.ok) (he : (rdPr c s).1.e = 0) : s.e = 0 ∧ s.b = prB c (rdPr c s).2 ++ (rdPr c s).1.b := by
  obtain ⟨h1, h2, h3, h4, h5⟩ := text_inv (text_ok (num_ok (num_ok h _) _) _ _) he
  obtain ⟨k1, k2, k3, k4, k5⟩ := text_inv (num_ok (num_ok h _) _) h1
  obtain ⟨m1, m2, m3⟩ := num_inv (w := 2) (num_ok h _) rfl k1
  obtain ⟨n1, n2, n3⟩ := num_inv (w := 1) h rfl m1
  refine ⟨n1, ?_⟩
  unfold prB pairL rdPr
  simp only
  rw [sized k4, sized h4, txt_strOf, txt_strOf]
  simp only [List.append_assoc]
  rw [← h5, ← k5]
  have e3 : s.b = be 1 (numS s 1).2 ++ (numS s 1).1.b := n2
  have e4 : (numS s 1).1.b = be 2 (numS (numS s 1).1 2).2 ++ (numS (numS s 1).1 2).1.b := m2
  rw [e3, e4]
theorem rdK_inv (h : s.ok) (he : (rdK s).1.e = 0) : s.e = 0 ∧ s.b = be 4 (rdK s).2 ++ (rdK s).1.b := by
  obtain ⟨h1, h2, -⟩ := num_inv (w := 4) h rfl he
  exact ⟨h1, h2⟩
theorem rdPv_inv (h : s.ok) (he : (rdPv c s).1.e = 0) : s.e = 0 ∧ s.b = pvL c (rdPv c s).2 ++ (rdPv c s).1.b := by
  obtain ⟨k1, k2, k3, k4, k5⟩ := text_inv (num_ok h _) he
  obtain ⟨n1, n2, n3⟩ := num_inv (w := 1) h rfl k1
  refine ⟨n1, ?_⟩
  unfold pvL rdPv
  simp only
  rw [sized k4, txt_strOf, List.append_assoc, ← k5]
  exact n2
theorem rdMs_inv (h : s.ok) (he : (rdMs c s).1.e = 0) : s.e = 0 ∧ s.b = mkL c (rdMs c s).2 ++ (rdMs c s).1.b := by
  obtain ⟨h1, h2⟩ := rdPr_inv (c := c) (num_ok h _) he
  obtain ⟨n1, n2, -⟩ := num_inv (w := 1) h rfl h1
  refine ⟨n1, ?_⟩
  have h3 : s.b = be 1 (numS s 1).2 ++ (numS s 1).1.b := n2
  rw [h3, h2]
  unfold mkL rdMs prB
  simp
theorem rdPr_fwd {x : Pr} {R : List UInt8} (h1 : x.1.size < 256) (h2 : x.2.size < 65536) (h3 : (x.1.size : Int) ≤ c.key) (h4 : (x.2.size : Int) ≤ c.val) : rdPr c ⟨prB c x ++ R, 0⟩ = (⟨R, 0⟩, x) := by
  unfold prB pairL rdPr
  simp only [List.append_assoc]
  have e1 : ∀ R, numS ⟨be 1 x.1.size ++ R, 0⟩ 1 = (⟨R, 0⟩, x.1.size) := fun R => num_fwd (w := 1) rfl (by omega)
  have e2 : ∀ R, numS ⟨be 2 x.2.size ++ R, 0⟩ 2 = (⟨R, 0⟩, x.2.size) := fun R => num_fwd (w := 2) rfl (by omega)
  have e3 : ∀ R, textS ⟨slotL (txt x.1) c.key ++ R, 0⟩ (x.1.size : Int) c.key = (⟨R, 0⟩, txt x.1) := fun R => text_fwd (by rw [txt_len]) h3
  have e4 : ∀ R, textS ⟨slotL (txt x.2) c.val ++ R, 0⟩ (x.2.size : Int) c.val = (⟨R, 0⟩, txt x.2) := fun R => text_fwd (by rw [txt_len]) h4
  rw [e1]
  simp only
  rw [e2]
  simp only
  rw [e3]
  simp only
  rw [e4]
  rfl
theorem rdK_fwd {x : Nat} {R : List UInt8} (h : x < 4294967296) : rdK ⟨be 4 x ++ R, 0⟩ = (⟨R, 0⟩, x) := num_fwd (w := 4) rfl (by omega)
theorem rdPv_fwd {x : ByteArray} {R : List UInt8} (h1 : x.size < 256) (h3 : (x.size : Int) ≤ c.key) : rdPv c ⟨pvL c x ++ R, 0⟩ = (⟨R, 0⟩, x) := by
  unfold pvL rdPv
  simp only [List.append_assoc]
  have e1 : ∀ R, numS ⟨be 1 x.size ++ R, 0⟩ 1 = (⟨R, 0⟩, x.size) := fun R => num_fwd (w := 1) rfl (by omega)
  have e3 : ∀ R, textS ⟨slotL (txt x) c.key ++ R, 0⟩ (x.size : Int) c.key = (⟨R, 0⟩, txt x) := fun R => text_fwd (by rw [txt_len]) h3
  rw [e1]
  simp only
  rw [e3]
  rfl
theorem rdMs_fwd {x : Nat × Mg} {R : List UInt8} (h0 : x.1 < 256) (hd : x.2.2.1 = decide (x.1 = 2)) (h1 : x.2.1.size < 256) (h2 : x.2.2.2.size < 65536) (h3 : (x.2.1.size : Int) ≤ c.key) (h4 : (x.2.2.2.size : Int) ≤ c.val) : rdMs c ⟨mkL c x ++ R, 0⟩ = (⟨R, 0⟩, x) := by
  obtain ⟨mk, key, del, v⟩ := x
  simp only at h0 hd h1 h2 h3 h4
  rw [hd]
  have e1 : ∀ R, numS ⟨be 1 mk ++ R, 0⟩ 1 = (⟨R, 0⟩, mk) := fun R => num_fwd (w := 1) rfl (by omega)
  have e2 : rdPr c ⟨pairL c key v ++ R, 0⟩ = (⟨R, 0⟩, (key, v)) := rdPr_fwd (x := (key, v)) h1 h2 h3 h4
  unfold mkL rdMs
  simp only [List.append_assoc]
  rw [e1]
  simp only
  rw [e2]
end
end No
end Go.Proofs.Ytgpbioljldkmaaa

namespace Go.Proofs.Ytgpbioljldkmaaa
open Go.RowKit
namespace No
open Mem Lx Bu Lf Fa
open Wd (be val be_length val_be isW St takeS numS zerosS textS spoilS zeroB)
def hMark (s : St) : Nat := (numS s 1).2
def hLv (s : St) : Nat := (numS (numS s 1).1 1).2
def hParts (s : St) : Nat := (numS (numS (numS s 1).1 1).1 2).2
def hMsgs (s : St) : Nat := (numS (numS (numS (numS s 1).1 1).1 2).1 2).2
def hSt (s : St) : St := zerosS (numS (numS (numS (numS s 1).1 1).1 2).1 2).1 2
/-- is there room for so many parts and messages -/
def Room (c : Cfg) (lv parts msgs : Nat) : Prop := (lv = 0 ∧ (parts : Int) ≤ c.leaf ∧ msgs = 0) ∨ (lv ≠ 0 ∧ 1 ≤ parts ∧ (parts : Int) ≤ c.fan ∧ (msgs : Int) ≤ c.buffer)
def HeadOk (c : Cfg) (s : St) : Prop := hMark s = (if hLv s = 0 then 1 else 2) ∧ Room c (hLv s) (hParts s) (hMsgs s)
def oQ (c : Cfg) (s : St) : St × List Pr := rdS (rdPr c) (hParts s) (hSt s)
def iK (s : St) : St × List Nat := rdS rdK (hParts s) (hSt s)
def iZ1 (c : Cfg) (s : St) : St := zerosS (iK s).1 (4 * (c.fan - hParts s))
def iP (c : Cfg) (s : St) : St × List ByteArray := rdS (rdPv c) (hParts s - 1) (iZ1 c s)
def iZ2 (c : Cfg) (s : St) : St := zerosS (iP c s).1 ((1 + c.key) * (c.fan - 1 - ((hParts s - 1 : Nat) : Int)))
def iM (c : Cfg) (s : St) : St × List (Nat × Mg) := rdS (rdMs c) (hMsgs s) (iZ2 c s)
/-- the reader tells the node n, and is left at s' -/
def NdP (c : Cfg) (s : St) (n : Nd) (s' : St) : Prop := HeadOk c s ∧
  ((hLv s = 0 ∧ n = ⟨0, [], [], [], (oQ c s).2⟩ ∧ s' = (oQ c s).1) ∨
   (hLv s ≠ 0 ∧ n = ⟨hLv s, (iK s).2, (iP c s).2, (iM c s).2.map (·.2), []⟩ ∧ s' = (iM c s).1 ∧ ∀ x ∈ (iM c s).2, x.1 = 1 ∨ x.1 = 2))
theorem NdP.one {c : Cfg} {s s1 s2 : St} {n m : Nd} (h : NdP c s n s1) (k : NdP c s m s2) : n = m ∧ s1 = s2 := by
  obtain ⟨-, h⟩ := h
  obtain ⟨-, k⟩ := k
  rcases h with ⟨h1, h2, h3⟩ | ⟨h1, h2, h3, -⟩ <;> rcases k with ⟨k1, k2, k3⟩ | ⟨k1, k2, k3, -⟩
  · exact ⟨h2.trans k2.symm, h3.trans k3.symm⟩
  · exact absurd h1 k1
  · exact absurd k1 h1
  · exact ⟨h2.trans k2.symm, h3.trans k3.symm⟩
section
variable {s : St}
theorem hSt_ok (h : s.ok) : (hSt s).ok := zeros_ok (num_ok (num_ok (num_ok (num_ok h _) _) _) _) _
theorem hd_inv (h : s.ok) (he : (hSt s).e = 0) : s.b = be 1 (hMark s) ++ (be 1 (hLv s) ++ (be 2 (hParts s) ++ (be 2 (hMsgs s) ++ (zs 2 ++ (hSt s).b)))) := by
  obtain ⟨h1, h2⟩ := zeros_inv (num_ok (num_ok (num_ok (num_ok h _) _) _) _) (by decide) he
  obtain ⟨k1, k2, -⟩ := num_inv (w := 2) (num_ok (num_ok (num_ok h _) _) _) rfl h1
  obtain ⟨m1, m2, -⟩ := num_inv (w := 2) (num_ok (num_ok h _) _) rfl k1
  obtain ⟨n1, n2, -⟩ := num_inv (w := 1) (num_ok h _) rfl m1
  obtain ⟨-, o2, -⟩ := num_inv (w := 1) h rfl n1
  have e1 : s.b = be 1 (hMark s) ++ (numS s 1).1.b := o2
  have e2 : (numS s 1).1.b = be 1 (hLv s) ++ (numS (numS s 1).1 1).1.b := n2
  have e3 : (numS (numS s 1).1 1).1.b = be 2 (hParts s) ++ (numS (numS (numS s 1).1 1).1 2).1.b := m2
  have e4 : (numS (numS (numS s 1).1 1).1 2).1.b = be 2 (hMsgs s) ++ (numS (numS (numS (numS s 1).1 1).1 2).1 2).1.b := k2
  have e5 : (numS (numS (numS (numS s 1).1 1).1 2).1 2).1.b = zs 2 ++ (hSt s).b := h2
  rw [e1, e2, e3, e4, e5]
theorem hd_fwd {mk lv np nm : Nat} {R : List UInt8} (h1 : mk < 256) (h2 : lv < 256) (h3 : np < 65536) (h4 : nm < 65536) : ∀ s : St, s = ⟨be 1 mk ++ (be 1 lv ++ (be 2 np ++ (be 2 nm ++ (zs 2 ++ R)))), 0⟩ → hMark s = mk ∧ hLv s = lv ∧ hParts s = np ∧ hMsgs s = nm ∧ hSt s = ⟨R, 0⟩ := by
  rintro s rfl
  have e1 : ∀ v R, v < 256 → numS ⟨be 1 v ++ R, 0⟩ 1 = (⟨R, 0⟩, v) := fun v R h => num_fwd (w := 1) rfl (by omega)
  have e2 : ∀ v R, v < 65536 → numS ⟨be 2 v ++ R, 0⟩ 2 = (⟨R, 0⟩, v) := fun v R h => num_fwd (w := 2) rfl (by omega)
  have e3 : zerosS ⟨zs 2 ++ R, 0⟩ 2 = ⟨R, 0⟩ := zeros_fwd (by decide)
  unfold hMark hLv hParts hMsgs hSt
  rw [e1 _ _ h1]
  simp only
  rw [e1 _ _ h2]
  simp only
  rw [e2 _ _ h3]
  simp only
  rw [e2 _ _ h4]
  simp only
  exact ⟨trivial, trivial, trivial, trivial, e3⟩
end
theorem slot_of {b x : List UInt8} {k : Nat} {m : Int} (h : b = x ++ zs k) (hb : b.length = m.toNat) (hm : 0 ≤ m) : slotL x m = b := by
  unfold slotL
  rw [h]
  congr 2
  have := congrArg List.length h
  rw [List.length_append, zs_len] at this
  omega
theorem rest_zs {s : St} (h : s.ok) (he : (zerosS s s.b.length).e = 0) : s.e = 0 ∧ s.b = zs s.b.length := by
  obtain ⟨h1, h2⟩ := zeros_inv h (by omega) he
  refine ⟨h1, ?_⟩
  have h3 := congrArg List.length h2
  rw [List.length_append, zs_len] at h3
  have h4 : (zerosS s s.b.length).b = [] := List.eq_nil_of_length_eq_zero (by omega)
  rw [h4, List.append_nil] at h2
  exact h2
theorem mk_ms (c : Cfg) {x : Nat × Mg} (h : x.1 = 1 ∨ x.1 = 2) (hd : x.2.2.1 = decide (x.1 = 2)) : mkL c x = msL c x.2 := by
  unfold mkL msL
  rw [hd]
  rcases h with h | h <;> rw [h] <;> rfl
theorem nd_sound {c : Cfg} {F Bf Lf K V : Nat} (hs : SetOk c F Bf Lf K V) {b : List UInt8} {n : Nd} {s' : St} (hb : b.length = c.bytes.toNat) (h : NdP c ⟨b, 0⟩ n s') (hz : (zerosS s' s'.b.length).e = 0) : blockL c n = b := by
  have hok : St.ok ⟨b, 0⟩ := fun h => absurd rfl h
  have hY := hs.bytes
  obtain ⟨⟨hmk, hroom⟩, h⟩ := h
  rcases h with ⟨h0, rfl, rfl⟩ | ⟨h0, rfl, rfl, hM⟩
  · rcases hroom with ⟨-, -, hm⟩ | ⟨hr, -⟩
    · obtain ⟨h1, h2⟩ := rest_zs (rdS_ok (fun s => rdPr_ok) (hSt_ok hok) _) hz
      obtain ⟨h3, h4, -⟩ := rdS_inv (g := prB c) (P := fun _ => True) (fun s => rdPr_ok) (fun s h he => ⟨(rdPr_inv h he).1, (rdPr_inv h he).2, trivial⟩) (hSt_ok hok) h1
      have h5 := hd_inv hok h3
      rw [if_pos h0] at hmk
      have h4' : (hSt ⟨b, 0⟩).b = (oQ c ⟨b, 0⟩).2.flatMap (prB c) ++ (oQ c ⟨b, 0⟩).1.b := h4
      have h2' : (oQ c ⟨b, 0⟩).1.b = zs (oQ c ⟨b, 0⟩).1.b.length := h2
      rw [hmk, h0, hm, h4', h2'] at h5
      have hlen : (oQ c ⟨b, 0⟩).2.length = hParts ⟨b, 0⟩ := rdS_len _ _
      rw [← hlen] at h5
      show slotL (bodyL c _) c.bytes = b
      unfold bodyL
      rw [if_pos rfl]
      refine slot_of (k := (oQ c ⟨b, 0⟩).1.b.length) ?_ hb (by omega)
      have h6 : b = be 1 1 ++ (be 1 0 ++ (be 2 (oQ c ⟨b, 0⟩).2.length ++ (be 2 0 ++ (zs 2 ++ ((oQ c ⟨b, 0⟩).2.flatMap (prB c) ++ zs (oQ c ⟨b, 0⟩).1.b.length))))) := h5
      unfold leafL
      have e1 : be 1 1 = [1] := by decide
      have e2 : be 1 0 = [0] := by decide
      have e3 : be 2 0 = [0, 0] := by decide
      have e4 : zs 2 = [0, 0] := by decide
      have e5 : zs 4 = [0, 0, 0, 0] := by decide
      rw [e1, e2, e3, e4] at h6
      rw [e5]
      refine h6.trans ?_
      simp only [List.append_assoc, List.cons_append, List.nil_append]
      rfl
    · exact absurd h0 hr
  · rcases hroom with ⟨hr, -⟩ | ⟨-, hp1, hp2, -⟩
    · exact absurd hr h0
    · have hfan := hs.fan
      have hkey := hs.key
      have hFb := hs.f
      have okK : (iK ⟨b, 0⟩).1.ok := rdS_ok (fun s => rdK_ok) (hSt_ok hok) _
      have okZ1 : (iZ1 c ⟨b, 0⟩).ok := zeros_ok okK _
      have okP : (iP c ⟨b, 0⟩).1.ok := rdS_ok (fun s => rdPv_ok) okZ1 _
      have okZ2 : (iZ2 c ⟨b, 0⟩).ok := zeros_ok okP _
      obtain ⟨h1, h2⟩ := rest_zs (rdS_ok (fun s => rdMs_ok) okZ2 _) hz
      obtain ⟨m1, m2, m3⟩ := rdS_inv (g := mkL c) (P := fun x => x.2.2.1 = decide (x.1 = 2)) (fun s => rdMs_ok) (fun s h he => ⟨(rdMs_inv h he).1, (rdMs_inv h he).2, rfl⟩) okZ2 h1
      obtain ⟨z1, z2⟩ := zeros_inv okP (Int.mul_nonneg (by omega) (by omega)) m1
      obtain ⟨p1, p2, -⟩ := rdS_inv (g := pvL c) (P := fun _ => True) (fun s => rdPv_ok) (fun s h he => ⟨(rdPv_inv h he).1, (rdPv_inv h he).2, trivial⟩) okZ1 z1
      obtain ⟨y1, y2⟩ := zeros_inv okK (by omega) p1
      obtain ⟨k1, k2, -⟩ := rdS_inv (g := be 4) (P := fun _ => True) (fun s => rdK_ok) (fun s h he => ⟨(rdK_inv h he).1, (rdK_inv h he).2, trivial⟩) (hSt_ok hok) y1
      have h5 := hd_inv hok k1
      rw [if_neg h0] at hmk
      have k2' : (hSt ⟨b, 0⟩).b = (iK ⟨b, 0⟩).2.flatMap (be 4) ++ (iK ⟨b, 0⟩).1.b := k2
      have y2' : (iK ⟨b, 0⟩).1.b = zs (4 * (c.fan - hParts ⟨b, 0⟩)) ++ (iZ1 c ⟨b, 0⟩).b := y2
      have p2' : (iZ1 c ⟨b, 0⟩).b = (iP c ⟨b, 0⟩).2.flatMap (pvL c) ++ (iP c ⟨b, 0⟩).1.b := p2
      have z2' : (iP c ⟨b, 0⟩).1.b = zs ((1 + c.key) * (c.fan - 1 - ((hParts ⟨b, 0⟩ - 1 : Nat) : Int))) ++ (iZ2 c ⟨b, 0⟩).b := z2
      have m2' : (iZ2 c ⟨b, 0⟩).b = (iM c ⟨b, 0⟩).2.flatMap (mkL c) ++ (iM c ⟨b, 0⟩).1.b := m2
      have hfm : (iM c ⟨b, 0⟩).2.flatMap (mkL c) = ((iM c ⟨b, 0⟩).2.map (·.2)).flatMap (msL c) := by
        rw [List.flatMap_map]
        have h9 : ∀ L : List (Nat × Mg), (∀ x ∈ L, x.1 = 1 ∨ x.1 = 2) → (∀ x ∈ L, x.2.2.1 = decide (x.1 = 2)) → L.flatMap (mkL c) = L.flatMap (fun x => msL c x.2) := by
          intro L
          induction L with
          | nil => intro _ _; rfl
          | cons x L ih =>
            intro h1 h2
            rw [List.flatMap_cons, List.flatMap_cons, ih (fun y hy => h1 y (List.mem_cons_of_mem _ hy)) (fun y hy => h2 y (List.mem_cons_of_mem _ hy)), mk_ms c (h1 x List.mem_cons_self) (h2 x List.mem_cons_self)]
        exact h9 _ hM m3
      have h2' : (iM c ⟨b, 0⟩).1.b = zs (iM c ⟨b, 0⟩).1.b.length := h2
      rw [hmk, k2', y2', p2', z2', m2', h2', hfm] at h5
      have hlk : (iK ⟨b, 0⟩).2.length = hParts ⟨b, 0⟩ := rdS_len _ _
      have hlp : (iP c ⟨b, 0⟩).2.length = hParts ⟨b, 0⟩ - 1 := rdS_len _ _
      have hlm : ((iM c ⟨b, 0⟩).2.map (·.2)).length = hMsgs ⟨b, 0⟩ := by
        rw [List.length_map]
        exact rdS_len _ _
      rw [← hlm, ← hlp, ← hlk] at h5
      show slotL (bodyL c _) c.bytes = b
      unfold bodyL
      rw [if_neg (by simp only; omega)]
      refine slot_of (k := (iM c ⟨b, 0⟩).1.b.length) ?_ hb (by omega)
      have e1 : be 1 2 = [2] := by decide
      have h6 := h5
      rw [e1] at h6
      unfold innL
      simp only [Int.toNat_natCast]
      refine Eq.trans (show b = _ from h6) ?_
      simp only [List.append_assoc]
theorem nd_complete {c : Cfg} {m : Nd} (hr : RightA c m) : ∃ s', NdP c ⟨blockL c m, 0⟩ m s' ∧ (zerosS s' s'.b.length).e = 0 := by
  obtain ⟨F, Bf, Lf, K, V, hs⟩ := set_ok hr.1
  have hY := hs.bytes
  have hfan := hs.fan
  have hkey := hs.key
  have hval := hs.val
  have hK := hs.k
  have hV := hs.v
  have hF := hs.f
  have hB := hs.b
  have hL := hs.l
  have zdone : ∀ k : Int, (zerosS ⟨zs k, 0⟩ ((zs k).length : Int)).e = 0 := fun k => by
    have h9 := zeros_fwd (n := ((zs k).length : Int)) (R := []) (by omega)
    have h8 : zs (((zs k).length : Nat) : Int) = zs k := by
      rw [zs_len]
      unfold zs
      congr 1
    rw [List.append_nil, h8] at h9
    rw [h9]
  by_cases h0 : m.lv = 0
  · have hP := hr.2.1 h0
    obtain ⟨hlen, hq⟩ := leaf_len hs hP
    obtain ⟨lv, Ks, P, Bu, Q⟩ := m
    obtain rfl : lv = 0 := h0
    obtain rfl : Ks = [] := List.eq_nil_of_length_eq_zero hP.kids
    obtain rfl : P = [] := List.eq_nil_of_length_eq_zero hP.piv
    obtain rfl : Bu = [] := List.eq_nil_of_length_eq_zero hP.buf
    obtain ⟨Z, hZ⟩ : ∃ Z, Z = c.bytes - (leafL c ⟨0, [], [], [], Q⟩).length := ⟨_, rfl⟩
    have eb : (⟨blockL c ⟨0, [], [], [], Q⟩, 0⟩ : St) = ⟨be 1 1 ++ (be 1 0 ++ (be 2 Q.length ++ (be 2 0 ++ (zs 2 ++ (Q.flatMap (prB c) ++ zs Z))))), 0⟩ := by
      congr 1
      show slotL (bodyL c _) c.bytes = _
      unfold bodyL
      rw [if_pos rfl]
      unfold slotL
      rw [← hZ]
      unfold leafL
      have e1 : be 1 1 = [1] := by decide
      have e2 : be 1 0 = [0] := by decide
      have e3 : be 2 0 = [0, 0] := by decide
      have e4 : zs 2 = [0, 0] := by decide
      have e5 : zs 4 = [0, 0, 0, 0] := by decide
      rw [e1, e2, e3, e4, e5]
      simp only [List.append_assoc, List.cons_append, List.nil_append]
      rfl
    have hq2 : Q.length ≤ Lf := hq
    obtain ⟨g1, g2, g3, g4, g5⟩ := hd_fwd (by decide) (by decide) (by omega) (by decide) _ eb
    have hrd : oQ c ⟨blockL c ⟨0, [], [], [], Q⟩, 0⟩ = (⟨zs Z, 0⟩, Q) := by
      unfold oQ
      rw [g3, g5]
      refine rdS_fwd fun x hx R => ?_
      obtain ⟨k1, -, k3⟩ := hP.each x hx
      have k2 := (keyB_le k1).2
      exact rdPr_fwd (by omega) (by omega) k2 k3
    refine ⟨⟨zs Z, 0⟩, ⟨⟨by rw [g1, g2]; rfl, .inl ⟨g2, by rw [g3]; exact hP.few, g4⟩⟩, .inl ⟨g2, by rw [hrd], by rw [hrd]⟩⟩, zdone Z⟩
  · obtain ⟨hl0, hP⟩ := hr.2.2 h0
    obtain ⟨lv', hlv⟩ : ∃ l : Nat, m.lv = l := ⟨m.lv.toNat, by omega⟩
    have hlv40 := hP.lv
    have hkf := hP.fan
    have hkp := hP.fewer
    have hk1 := hP.one
    have hbf := hP.few
    have hbu := hs.buffer
    obtain ⟨lv, Ks, P, Bu, Q⟩ := m
    obtain rfl : Q = [] := List.eq_nil_of_length_eq_zero hP.prs
    obtain rfl : lv = (lv' : Int) := hlv
    simp only at hkf hkp hk1 hbf h0 hl0 hlv40
    obtain ⟨Z, hZ⟩ : ∃ Z, Z = c.bytes - (innL c ⟨(lv' : Int), Ks, P, Bu, []⟩).length := ⟨_, rfl⟩
    obtain ⟨M, hM⟩ : ∃ M : List (Nat × Mg), M = Bu.map fun x => ((kindB x.2.1).toNat, x) := ⟨_, rfl⟩
    have hM2 : M.map (·.2) = Bu := by
      rw [hM, List.map_map]
      exact List.map_id' _
    have hMm : ∀ x ∈ M, (x.1 = 1 ∨ x.1 = 2) ∧ x.2.2.1 = decide (x.1 = 2) ∧ x.2 ∈ Bu := fun x hx => by
      rw [hM] at hx
      obtain ⟨y, hy, rfl⟩ := List.mem_map.1 hx
      obtain ⟨key, del, v⟩ := y
      cases del
      · exact ⟨.inl rfl, rfl, hy⟩
      · exact ⟨.inr rfl, rfl, hy⟩
    have hMl : M.length = Bu.length := by rw [hM, List.length_map]
    have hMf : M.flatMap (mkL c) = Bu.flatMap (msL c) := by
      rw [hM, List.flatMap_map]
      congr 1
      funext x
      obtain ⟨key, del, v⟩ := x
      cases del <;> rfl
    have eb : (⟨blockL c ⟨(lv' : Int), Ks, P, Bu, []⟩, 0⟩ : St) = ⟨be 1 2 ++ (be 1 lv' ++ (be 2 Ks.length ++ (be 2 Bu.length ++ (zs 2 ++ (Ks.flatMap (be 4) ++ (zs (4 * (c.fan - Ks.length)) ++ (P.flatMap (pvL c) ++ (zs ((1 + c.key) * (c.fan - 1 - P.length)) ++ (M.flatMap (mkL c) ++ zs Z))))))))), 0⟩ := by
      congr 1
      show slotL (bodyL c _) c.bytes = _
      unfold bodyL
      rw [if_neg (by simpa using h0)]
      unfold slotL
      rw [← hZ, hMf]
      unfold innL
      have e1 : be 1 2 = [2] := by decide
      rw [e1]
      simp only [List.append_assoc, Int.toNat_natCast]
    obtain ⟨g1, g2, g3, g4, g5⟩ := hd_fwd (by decide) (by omega) (by omega) (by omega) _ eb
    have hl : lv' ≠ 0 := by omega
    have rK : iK ⟨blockL c ⟨(lv' : Int), Ks, P, Bu, []⟩, 0⟩ = (⟨zs (4 * (c.fan - Ks.length)) ++ (P.flatMap (pvL c) ++ (zs ((1 + c.key) * (c.fan - 1 - P.length)) ++ (M.flatMap (mkL c) ++ zs Z))), 0⟩, Ks) := by
      unfold iK
      rw [g3, g5]
      refine rdS_fwd fun x hx R => ?_
      obtain ⟨i, hi⟩ := List.getElem?_of_mem hx
      have := (hP.kids i x hi).1.2
      have := hs.blocks
      exact rdK_fwd (by omega)
    have rZ1 : iZ1 c ⟨blockL c ⟨(lv' : Int), Ks, P, Bu, []⟩, 0⟩ = ⟨P.flatMap (pvL c) ++ (zs ((1 + c.key) * (c.fan - 1 - P.length)) ++ (M.flatMap (mkL c) ++ zs Z)), 0⟩ := by
      unfold iZ1
      rw [rK, g3]
      exact zeros_fwd (by omega)
    have rP : iP c ⟨blockL c ⟨(lv' : Int), Ks, P, Bu, []⟩, 0⟩ = (⟨zs ((1 + c.key) * (c.fan - 1 - P.length)) ++ (M.flatMap (mkL c) ++ zs Z), 0⟩, P) := by
      unfold iP
      rw [rZ1, g3, show Ks.length - 1 = P.length by omega]
      refine rdS_fwd fun x hx R => ?_
      have k2 := (keyB_le (hP.piv x hx)).2
      exact rdPv_fwd (by omega) k2
    have rZ2 : iZ2 c ⟨blockL c ⟨(lv' : Int), Ks, P, Bu, []⟩, 0⟩ = ⟨M.flatMap (mkL c) ++ zs Z, 0⟩ := by
      unfold iZ2
      rw [rP, g3, show Ks.length - 1 = P.length by omega]
      exact zeros_fwd (Int.mul_nonneg (by omega) (by omega))
    have rM : iM c ⟨blockL c ⟨(lv' : Int), Ks, P, Bu, []⟩, 0⟩ = (⟨zs Z, 0⟩, M) := by
      unfold iM
      rw [rZ2, g4, ← hMl]
      refine rdS_fwd fun x hx R => ?_
      obtain ⟨q1, q2, q3⟩ := hMm x hx
      obtain ⟨k1, -, k3, -⟩ := hP.buf x.2 q3
      have k2 := (keyB_le k1).2
      exact rdMs_fwd (by omega) q2 (by omega) (by omega) k2 k3
    refine ⟨⟨zs Z, 0⟩, ⟨⟨by rw [g1, g2, if_neg hl], .inr ⟨by rw [g2]; exact hl, by rw [g3]; exact hk1, by rw [g3]; exact hkf, by rw [g4]; exact hbf⟩⟩, .inr ⟨by rw [g2]; exact hl, by rw [g2, rK, rP, rM, hM2], by rw [rM], by rw [rM]; exact fun x hx => (hMm x hx).1⟩⟩, zdone Z⟩
end No
end Go.Proofs.Ytgpbioljldkmaaa

namespace Go.Proofs.Ytgpbioljldkmaaa
open Go.RowKit
namespace No
open Mem Lx Bu Lf Fa
open Wd (be val be_length val_be isW St takeS numS zerosS textS Only Rd)
/-- the cells of a reader by value -/
def rdrCs (c : Cfg) (q : Nat) : Array Value := #[.int .i64 c.blocks, .int .i64 c.bytes, .int .i64 c.frames, .int .i64 c.fan, .int .i64 c.buffer, .int .i64 c.leaf, .int .i64 c.key, .int .i64 c.val, .pointer (some ⟨q, 0, none⟩)]
theorem box9 {w : World} {b : Nat} {v0 v1 v2 v3 v4 v5 v6 v7 v8 : Value} {U : TypeId} (h : w.heap[b]? = some (.cells #[v0, v1, v2, v3, v4, v5, v6, v7, v8] U (0, 0))) : w.cell? ⟨b, 0, none⟩ = some v0 ∧ w.cell? ⟨b, 1, none⟩ = some v1 ∧ w.cell? ⟨b, 2, none⟩ = some v2 ∧ w.cell? ⟨b, 3, none⟩ = some v3 ∧ w.cell? ⟨b, 4, none⟩ = some v4 ∧ w.cell? ⟨b, 5, none⟩ = some v5 ∧ w.cell? ⟨b, 6, none⟩ = some v6 ∧ w.cell? ⟨b, 7, none⟩ = some v7 ∧ w.cell? ⟨b, 8, none⟩ = some v8 := by
  simp [World.cell?, h]
theorem num_lt (s : St) {w : Nat} (hw : isW (w : Int) = true) (h4 : w ≤ 4) : (numS s w).2 < 4294967296 := by
  unfold numS
  rw [if_pos hw]
  simp only
  have h1 := Wd.val_lt (takeS s (w : Int)).2
  have h2 := Wd.take_len s (w : Int)
  rw [if_neg (by omega)] at h2
  have h3 : (256 : Nat) ^ (takeS s (w : Int)).2.length ≤ 256 ^ 4 := Nat.pow_le_pow_right (by decide) (by omega)
  have h5 : (256 : Nat) ^ 4 = 4294967296 := by decide
  omega
/-- what a loop keeps: the reader's box, the rows read; all else but the bytes' reader as it was -/
structure Lb {α : Type} (K : Kind α) (c : Cfg) (W : World) (g q : Nat) (A : Option Addr) (cc : Nat) (L : List α) (w : World) : Prop where
  box : w.heap[g]? = some (.cells (rdrCs c q) 73 (0, 0))
  vk : VK K w (g + 1) A cc L
  only : Only q W w
  size : g + 1 ≤ w.heap.size
  lt : q < W.heap.size
  ge : W.heap.size ≤ g
section
variable {α : Type} {K : Kind α} {c : Cfg} {W w w' : World} {g q cc c' : Nat} {A A' : Option Addr} {L L' : List α} {s : St}
theorem Lb.only_ (h : Lb K c W g q A cc L w) (ho : Only q w w') : Lb K c W g q A cc L w' := by
  have h1 := h.lt
  have h2 := h.size
  have h0 := h.ge
  refine ⟨(ho.block _ (by omega) ?_).trans h.box, h.vk.into ho fun a ha hm => ?_, h.only.trans ho, Nat.le_trans h2 ho.size, h1, h0⟩
  · simp only [List.mem_singleton]
    omega
  · have h3 := (h.vk.at_ a ha).1
    simp only [List.mem_singleton] at hm
    omega
theorem Lb.kept (h : Lb K c W g q A cc L w) (hb : Below w.heap.size w w') : Lb K c W g q A cc L w' := h.only_ (Wd.Only.of_below hb)
theorem Lb.app (h : Lb K c W g q A cc L w) (hd : AppW K (g + 1) w w' A A' c' L') : Lb K c W g q A' c' L' w' :=
  ⟨(hd.below.block _ (Nat.lt_succ_self _)).trans h.box, hd.vo, ⟨hd.below.os.trans h.only.os, hd.below.tape.trans h.only.tape, hd.below.output.trans h.only.output, Nat.le_trans h.only.size hd.below.size, fun k hk hn => (hd.below.block k (Nat.lt_of_lt_of_le hk (Nat.le_trans h.ge (Nat.le_succ g)))).trans (h.only.block k hk hn)⟩, Nat.le_trans h.size hd.below.size, h.lt, h.ge⟩
/-- a reader behind an append to a row of another kind -/
theorem rd_app (hr : Rd 88 w q s) (h : Lb K c W g q A cc L w) (hd : AppW K (g + 1) w w' A A' c' L') (hT : K.T ≠ 5) : Rd 88 w' q s := by
  obtain ⟨A1, c1, h1, h2, h3, h4, h5⟩ := hr
  have hq := h.lt
  have hg := h.ge
  refine ⟨A1, c1, (hd.below.block q (by omega)).trans h1, ?_, h3, h4, h5⟩
  have hk : ∀ a, A1 = some a → 0 < s.b.length → w'.heap[a.block]? = w.heap[a.block]? := fun a ha hl => by
    obtain ⟨C, hC⟩ := h2.2 hl a ha
    refine hd.block _ (Array.getElem?_eq_some_iff.1 hC).1 fun a' ha' e => ?_
    rcases h.vk.2 with ⟨h6, -⟩ | ⟨g', cap, cur, he, -, hh, -⟩
    · rw [ha'] at h6
      cases h6
    · rw [ha'] at he
      cases he
      simp only at e
      rw [e] at hh
      rw [hC] at hh
      simp only [Option.some.injEq, Obj.cells.injEq] at hh
      exact hT hh.2.1.symm
  refine ⟨⟨h2.1.1.keep fun hl a ha => hk a ha hl, h2.1.2⟩, fun hl a ha => ?_⟩
  obtain ⟨C, hC⟩ := h2.2 hl a ha
  exact ⟨C, (hk a ha hl).trans hC⟩
end
theorem AppW.of {α : Type} {K : Kind α} {B c' : Nat} {w w' : World} {A A' : Option Addr} {L : List α} (hd : AppdK K B w w' A A' c' L) : AppW K B w w' A A' c' L := ⟨hd.vo, hd.below, hd.block, fun a' ha' => by
  rcases hd.row a' ha' with h1 | h1
  · exact .inl h1
  · exact .inr (Nat.le_of_eq h1.symm)⟩
/-- a call of the reader's, as an event -/
def EvI (w0 : World) (q : Nat) (x : Nat) (s : St) (v : Value) (w : World) : Prop := v = .int .i64 (x : Int) ∧ Rd 88 w q s ∧ Only q w0 w
def EvT (w0 : World) (q : Nat) (x : ByteArray) (s : St) (v : Value) (w : World) : Prop := v = .string x ∧ Rd 88 w q s ∧ Only q w0 w
set_option maxRecDepth 100000 in
set_option maxHeartbeats 4000000 in
theorem RdNum_any (c : Cfg) {w : World} {q : Nat} {s : St} (h : Rd 88 w q s) (wd : Nat) (hw : isW (wd : Int) = true) (h4 : wd ≤ 4) : Calls Try.prog 45 #[.agg (rdrCs c q), .int .i64 (wd : Int)] w fun e w' => e = .returned (.int .i64 ((numS s wd).2 : Int)) ∧ Rd 88 w' q (numS s wd).1 ∧ Only q w w' := by
  have hlt := num_lt s hw h4
  have cN := fun w h => Lib.hid (Wd.Num_any q s (wd : Int) w h)
  generalize (numS s (wd : Int)).2 = x at *
  generalize (numS s (wd : Int)).1 = s1 at *
  have hc : IntKind.i64.wrap (x : Int) = (x : Int) := by rw [IntKind.wrap_i64]; omega
  have HR := Lib.hid h
  obtain ⟨cB, cY, cF, cN', cU, cL, cKy, cV⟩ := c
  unfold rdrCs
  clear h hlt hw h4
  go_enter Try.func45, Try.ntmps45
  go_upto_region 1 with fail
  have hx := heap_alloc_new w (.cells #[.int .i64 cB, .int .i64 cY, .int .i64 cF, .int .i64 cN', .int .i64 cU, .int .i64 cL, .int .i64 cKy, .int .i64 cV, .pointer (some ⟨q, 0, none⟩)] 73)
  have hb : Below w.heap.size w (w.alloc (.cells #[.int .i64 cB, .int .i64 cY, .int .i64 cF, .int .i64 cN', .int .i64 cU, .int .i64 cL, .int .i64 cKy, .int .i64 cV, .pointer (some ⟨q, 0, none⟩)] 73)) := (Below.refl _ _).alloc (Nat.le_refl _) _
  generalize w.alloc (.cells #[.int .i64 cB, .int .i64 cY, .int .i64 cF, .int .i64 cN', .int .i64 cU, .int .i64 cL, .int .i64 cKy, .int .i64 cV, .pointer (some ⟨q, 0, none⟩)] 73) = w1 at *
  obtain ⟨g, hg⟩ : ∃ g, g = w.heap.size := ⟨_, rfl⟩
  rw [← hg] at hx
  simp only [← hg]
  obtain ⟨-, -, -, -, -, -, -, -, g8⟩ := box9 hx
  have HR1 := Lib.hid (HR.out.keep hb)
  have HB := Lib.hid hb
  clear hx hb hg
  go_wp2_with (go_at_call 65; refine (cN _ HR1.out).out.mono ?_; rintro e w2 ⟨rfl, hr, ho⟩; have HR2 := Lib.hid hr; have HO := Lib.hid ho; clear hr ho)
  go_ret
  exact ⟨rfl, HR2.out, (Wd.Only.of_below HB.out).trans HO.out⟩
set_option maxRecDepth 100000 in
set_option maxHeartbeats 4000000 in
theorem HasRoom_any (c : Cfg) (q lv np nm : Nat) (w : World) (t : Bool) (ht : t = true ↔ Room c lv np nm) : Calls Try.prog 46 #[.agg (rdrCs c q), .int .i64 (lv : Int), .int .i64 (np : Int), .int .i64 (nm : Int)] w fun e w' => e = .returned (.bool t) ∧ Below w.heap.size w w' := by
  obtain ⟨cB, cY, cF, cN, cU, cL, cKy, cV⟩ := c
  unfold rdrCs
  simp only
  by_cases h0 : lv = 0
  · subst h0
    by_cases h1 : (np : Int) ≤ cL
    · by_cases h2 : nm = 0
      · subst h2
        obtain rfl : t = true := by
          cases t
          · exact absurd (ht.2 (by unfold Room; first | exact .inl ⟨rfl, h1, rfl⟩ | (simp only; omega))) (by simp)
          · rfl
        clear ht
        go_enter Try.func46, Try.ntmps46
        go_upto_region 1 with fail
        have hx := heap_alloc_new w (.cells #[.int .i64 cB, .int .i64 cY, .int .i64 cF, .int .i64 cN, .int .i64 cU, .int .i64 cL, .int .i64 cKy, .int .i64 cV, .pointer (some ⟨q, 0, none⟩)] 73)
        have hb : Below w.heap.size w (w.alloc (.cells #[.int .i64 cB, .int .i64 cY, .int .i64 cF, .int .i64 cN, .int .i64 cU, .int .i64 cL, .int .i64 cKy, .int .i64 cV, .pointer (some ⟨q, 0, none⟩)] 73)) := (Below.refl _ _).alloc (Nat.le_refl _) _
        generalize w.alloc (.cells #[.int .i64 cB, .int .i64 cY, .int .i64 cF, .int .i64 cN, .int .i64 cU, .int .i64 cL, .int .i64 cKy, .int .i64 cV, .pointer (some ⟨q, 0, none⟩)] 73) = w1 at *
        obtain ⟨g, hg⟩ : ∃ g, g = w.heap.size := ⟨_, rfl⟩
        rw [← hg] at hx
        simp only [← hg]
        obtain ⟨-, -, -, g3, g4, g5, -, -, -⟩ := box9 hx
        have HB := Lib.hid hb
        clear hx hb hg
        go_wp2_with fail
        go_ret
        exact ⟨rfl, HB.out⟩
      · have h3 : ((nm : Int) == 0) = false := by simpa using h2
        obtain rfl : t = false := by
          cases t
          · rfl
          · exact absurd (ht.1 rfl) (by unfold Room; simp only; omega)
        clear ht
        go_enter Try.func46, Try.ntmps46
        go_upto_region 1 with fail
        have hx := heap_alloc_new w (.cells #[.int .i64 cB, .int .i64 cY, .int .i64 cF, .int .i64 cN, .int .i64 cU, .int .i64 cL, .int .i64 cKy, .int .i64 cV, .pointer (some ⟨q, 0, none⟩)] 73)
        have hb : Below w.heap.size w (w.alloc (.cells #[.int .i64 cB, .int .i64 cY, .int .i64 cF, .int .i64 cN, .int .i64 cU, .int .i64 cL, .int .i64 cKy, .int .i64 cV, .pointer (some ⟨q, 0, none⟩)] 73)) := (Below.refl _ _).alloc (Nat.le_refl _) _
        generalize w.alloc (.cells #[.int .i64 cB, .int .i64 cY, .int .i64 cF, .int .i64 cN, .int .i64 cU, .int .i64 cL, .int .i64 cKy, .int .i64 cV, .pointer (some ⟨q, 0, none⟩)] 73) = w1 at *
        obtain ⟨g, hg⟩ : ∃ g, g = w.heap.size := ⟨_, rfl⟩
        rw [← hg] at hx
        simp only [← hg]
        obtain ⟨-, -, -, g3, g4, g5, -, -, -⟩ := box9 hx
        have HB := Lib.hid hb
        clear hx hb hg
        go_wp2_with fail
        go_ret
        exact ⟨rfl, HB.out⟩
    · have h3 : decide ((np : Int) ≤ cL) = false := by simpa using h1
      obtain rfl : t = false := by
        cases t
        · rfl
        · exact absurd (ht.1 rfl) (by unfold Room; simp only; omega)
      clear ht
      go_enter Try.func46, Try.ntmps46
      go_upto_region 1 with fail
      have hx := heap_alloc_new w (.cells #[.int .i64 cB, .int .i64 cY, .int .i64 cF, .int .i64 cN, .int .i64 cU, .int .i64 cL, .int .i64 cKy, .int .i64 cV, .pointer (some ⟨q, 0, none⟩)] 73)
      have hb : Below w.heap.size w (w.alloc (.cells #[.int .i64 cB, .int .i64 cY, .int .i64 cF, .int .i64 cN, .int .i64 cU, .int .i64 cL, .int .i64 cKy, .int .i64 cV, .pointer (some ⟨q, 0, none⟩)] 73)) := (Below.refl _ _).alloc (Nat.le_refl _) _
      generalize w.alloc (.cells #[.int .i64 cB, .int .i64 cY, .int .i64 cF, .int .i64 cN, .int .i64 cU, .int .i64 cL, .int .i64 cKy, .int .i64 cV, .pointer (some ⟨q, 0, none⟩)] 73) = w1 at *
      obtain ⟨g, hg⟩ : ∃ g, g = w.heap.size := ⟨_, rfl⟩
      rw [← hg] at hx
      simp only [← hg]
      obtain ⟨-, -, -, g3, g4, g5, -, -, -⟩ := box9 hx
      have HB := Lib.hid hb
      clear hx hb hg
      go_wp2_with fail
      go_ret
      exact ⟨rfl, HB.out⟩
  · have h9 : ((lv : Int) == 0) = false := by simpa using h0
    by_cases h1 : 1 ≤ np
    · have h1' : (1 : Int) ≤ (np : Int) := by omega
      by_cases h2 : (np : Int) ≤ cN
      · by_cases h3 : (nm : Int) ≤ cU
        · have h4 : (nm : Int) ≤ cU := h3
          obtain rfl : t = true := by
            cases t
            · exact absurd (ht.2 (by unfold Room; first | exact .inl ⟨rfl, h1, rfl⟩ | (simp only; omega))) (by simp)
            · rfl
          clear ht
          go_enter Try.func46, Try.ntmps46
          go_upto_region 1 with fail
          have hx := heap_alloc_new w (.cells #[.int .i64 cB, .int .i64 cY, .int .i64 cF, .int .i64 cN, .int .i64 cU, .int .i64 cL, .int .i64 cKy, .int .i64 cV, .pointer (some ⟨q, 0, none⟩)] 73)
          have hb : Below w.heap.size w (w.alloc (.cells #[.int .i64 cB, .int .i64 cY, .int .i64 cF, .int .i64 cN, .int .i64 cU, .int .i64 cL, .int .i64 cKy, .int .i64 cV, .pointer (some ⟨q, 0, none⟩)] 73)) := (Below.refl _ _).alloc (Nat.le_refl _) _
          generalize w.alloc (.cells #[.int .i64 cB, .int .i64 cY, .int .i64 cF, .int .i64 cN, .int .i64 cU, .int .i64 cL, .int .i64 cKy, .int .i64 cV, .pointer (some ⟨q, 0, none⟩)] 73) = w1 at *
          obtain ⟨g, hg⟩ : ∃ g, g = w.heap.size := ⟨_, rfl⟩
          rw [← hg] at hx
          simp only [← hg]
          obtain ⟨-, -, -, g3, g4, g5, -, -, -⟩ := box9 hx
          have HB := Lib.hid hb
          clear hx hb hg
          go_wp2_with fail
          go_ret
          exact ⟨rfl, HB.out⟩
        · have h4 : decide ((nm : Int) ≤ cU) = false := by simpa using h3
          obtain rfl : t = false := by
            cases t
            · rfl
            · exact absurd (ht.1 rfl) (by unfold Room; simp only; omega)
          clear ht
          go_enter Try.func46, Try.ntmps46
          go_upto_region 1 with fail
          have hx := heap_alloc_new w (.cells #[.int .i64 cB, .int .i64 cY, .int .i64 cF, .int .i64 cN, .int .i64 cU, .int .i64 cL, .int .i64 cKy, .int .i64 cV, .pointer (some ⟨q, 0, none⟩)] 73)
          have hb : Below w.heap.size w (w.alloc (.cells #[.int .i64 cB, .int .i64 cY, .int .i64 cF, .int .i64 cN, .int .i64 cU, .int .i64 cL, .int .i64 cKy, .int .i64 cV, .pointer (some ⟨q, 0, none⟩)] 73)) := (Below.refl _ _).alloc (Nat.le_refl _) _
          generalize w.alloc (.cells #[.int .i64 cB, .int .i64 cY, .int .i64 cF, .int .i64 cN, .int .i64 cU, .int .i64 cL, .int .i64 cKy, .int .i64 cV, .pointer (some ⟨q, 0, none⟩)] 73) = w1 at *
          obtain ⟨g, hg⟩ : ∃ g, g = w.heap.size := ⟨_, rfl⟩
          rw [← hg] at hx
          simp only [← hg]
          obtain ⟨-, -, -, g3, g4, g5, -, -, -⟩ := box9 hx
          have HB := Lib.hid hb
          clear hx hb hg
          go_wp2_with fail
          go_ret
          exact ⟨rfl, HB.out⟩
      · have h4 : decide ((np : Int) ≤ cN) = false := by simpa using h2
        obtain rfl : t = false := by
          cases t
          · rfl
          · exact absurd (ht.1 rfl) (by unfold Room; simp only; omega)
        clear ht
        go_enter Try.func46, Try.ntmps46
        go_upto_region 1 with fail
        have hx := heap_alloc_new w (.cells #[.int .i64 cB, .int .i64 cY, .int .i64 cF, .int .i64 cN, .int .i64 cU, .int .i64 cL, .int .i64 cKy, .int .i64 cV, .pointer (some ⟨q, 0, none⟩)] 73)
        have hb : Below w.heap.size w (w.alloc (.cells #[.int .i64 cB, .int .i64 cY, .int .i64 cF, .int .i64 cN, .int .i64 cU, .int .i64 cL, .int .i64 cKy, .int .i64 cV, .pointer (some ⟨q, 0, none⟩)] 73)) := (Below.refl _ _).alloc (Nat.le_refl _) _
        generalize w.alloc (.cells #[.int .i64 cB, .int .i64 cY, .int .i64 cF, .int .i64 cN, .int .i64 cU, .int .i64 cL, .int .i64 cKy, .int .i64 cV, .pointer (some ⟨q, 0, none⟩)] 73) = w1 at *
        obtain ⟨g, hg⟩ : ∃ g, g = w.heap.size := ⟨_, rfl⟩
        rw [← hg] at hx
        simp only [← hg]
        obtain ⟨-, -, -, g3, g4, g5, -, -, -⟩ := box9 hx
        have HB := Lib.hid hb
        clear hx hb hg
        go_wp2_with fail
        go_ret
        exact ⟨rfl, HB.out⟩
    · have h4 : decide ((1 : Int) ≤ (np : Int)) = false := by simp; omega
      obtain rfl : t = false := by
        cases t
        · rfl
        · exact absurd (ht.1 rfl) (by unfold Room; simp only; omega)
      clear ht
      go_enter Try.func46, Try.ntmps46
      go_upto_region 1 with fail
      have hx := heap_alloc_new w (.cells #[.int .i64 cB, .int .i64 cY, .int .i64 cF, .int .i64 cN, .int .i64 cU, .int .i64 cL, .int .i64 cKy, .int .i64 cV, .pointer (some ⟨q, 0, none⟩)] 73)
      have hb : Below w.heap.size w (w.alloc (.cells #[.int .i64 cB, .int .i64 cY, .int .i64 cF, .int .i64 cN, .int .i64 cU, .int .i64 cL, .int .i64 cKy, .int .i64 cV, .pointer (some ⟨q, 0, none⟩)] 73)) := (Below.refl _ _).alloc (Nat.le_refl _) _
      generalize w.alloc (.cells #[.int .i64 cB, .int .i64 cY, .int .i64 cF, .int .i64 cN, .int .i64 cU, .int .i64 cL, .int .i64 cKy, .int .i64 cV, .pointer (some ⟨q, 0, none⟩)] 73) = w1 at *
      obtain ⟨g, hg⟩ : ∃ g, g = w.heap.size := ⟨_, rfl⟩
      rw [← hg] at hx
      simp only [← hg]
      obtain ⟨-, -, -, g3, g4, g5, -, -, -⟩ := box9 hx
      have HB := Lib.hid hb
      clear hx hb hg
      go_wp2_with fail
      go_ret
      exact ⟨rfl, HB.out⟩
end No
end Go.Proofs.Ytgpbioljldkmaaa
