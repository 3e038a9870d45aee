/-
  Chains made behind a base; the law's awake and step.
-/
import Derived.Test.YtokgnnmnnjfjbaaChainRef
namespace Go.Proofs.Ytokgnnmnnjfjbaa
open Go.RowKit
namespace Cn
open Mem

/-- a chain that was made behind W; of what was there nothing has turned -/
structure Cr (W w : World) (g b n : Nat) (l : List Nat) : Prop where
  ch : Chn w g b n l
  bel : Below W.heap.size W w
  hg : W.heap.size ≤ g
  hb : W.heap.size ≤ b
theorem below_into {B : Nat} {W w w' : World} {S : List Nat} (h : Below B W w) (hi : Flow.Into S w w') (hS : ∀ k, k ∈ S → B ≤ k) (hB : B ≤ w.heap.size) : Below B W w' :=
  h.trans ⟨hi.os, hi.tape, hi.output, hi.size, fun k hk => hi.block k (Nat.lt_of_lt_of_le hk hB) fun hh => absurd hk (Nat.not_lt.2 (hS k hh))⟩
section
variable {W w w' : World} {g b n : Nat} {l l' : List Nat}
theorem Cr.kept (h : Cr W w g b n l) (hb : Below w.heap.size w w') : Cr W w' g b n l := ⟨h.ch.kept hb, h.bel.trans (hb.mono h.bel.size), h.hg, h.hb⟩
theorem Cr.into (h : Cr W w g b n l) (hi : Flow.Into [g, b] w w') (hc : Chn w' g b n l') : Cr W w' g b n l' :=
  ⟨hc, below_into h.bel hi (by have := h.hg; have := h.hb; simp; omega) h.bel.size, h.hg, h.hb⟩
theorem Cr.Front (h : Cr W w g b n l) (i : Int) : Calls Try.prog 8 #[.pointer (some ⟨g, 0, none⟩), .int .i64 i] w fun e w' => e = .returned (.int .i64 (errE n i)) ∧ Cr W w' g b n (fronT n l i) ∧ Flow.Into [g, b] w w' :=
  (CFront h.ch i).mono fun _ _ ⟨he, hc, hi⟩ => ⟨he, h.into hi hc, hi⟩
theorem Cr.Back (h : Cr W w g b n l) (i : Int) : Calls Try.prog 10 #[.pointer (some ⟨g, 0, none⟩), .int .i64 i] w fun e w' => e = .returned (.int .i64 (errE n i)) ∧ Cr W w' g b n (backT n l i) ∧ Flow.Into [g, b] w w' :=
  (CBack h.ch i).mono fun _ _ ⟨he, hc, hi⟩ => ⟨he, h.into hi hc, hi⟩
theorem Cr.Cut (h : Cr W w g b n l) (i : Int) : Calls Try.prog 12 #[.pointer (some ⟨g, 0, none⟩), .int .i64 i] w fun e w' => e = .returned (.int .i64 (cutE n l i)) ∧ Cr W w' g b n (cutT n l i) ∧ Flow.Into [g, b] w w' :=
  (CCut h.ch i).mono fun _ _ ⟨he, hc, hi⟩ => ⟨he, h.into hi hc, hi⟩
end
theorem Row_call {w : World} {g b n : Nat} {l : List Nat} (h : Chn w g b n l) : Calls Try.prog 18 #[.pointer (some ⟨g, 0, none⟩)] w fun e w' => (∃ A c, e = .returned (.slice A l.length c) ∧ Iow 3 w' w.heap.size A c (rowZ l)) ∧ Below w.heap.size w w' := by
  cases l with
  | nil => exact Row_nil h
  | cons y r => exact Row_cons h (by simp)
/-- New, behind whatever base -/
theorem New_cr (W w : World) (hb : Below W.heap.size W w) (n : Nat) (h0 : 1 ≤ n) (h1 : n ≤ 4096) : Calls Try.prog 6 #[.int .i64 (n : Int)] w fun e w' => ∃ g b, e = .returned (.tuple #[.pointer (some ⟨g, 0, none⟩), .int .i64 0]) ∧ Cr W w' g b n [] ∧ Below w.heap.size w w' :=
  (New_in n w h0 h1).mono fun _ _ ⟨⟨g, b, he, hr, hg, hbb⟩, hbl⟩ =>
    ⟨g, b, he, ⟨hr, hb.trans (hbl.mono hb.size), Nat.le_trans hb.size hg, Nat.le_trans hb.size hbb⟩, hbl⟩

/-- what awake asks of its chain, in its order -/
def AwAsk (W : World) (t0 t1 t2 t3 : List Nat) (r : List Int) : Prop :=
  (∀ w1 g b, Cr W w1 g b 4 t0 → Calls Try.prog 8 #[.pointer (some ⟨g, 0, none⟩), .int .i64 1] w1 fun e w' => e = .returned (.int .i64 0) ∧ Cr W w' g b 4 t1) ∧
  (∀ w1 g b, Cr W w1 g b 4 t1 → Calls Try.prog 8 #[.pointer (some ⟨g, 0, none⟩), .int .i64 2] w1 fun e w' => e = .returned (.int .i64 0) ∧ Cr W w' g b 4 t2) ∧
  (∀ w1 g b, Cr W w1 g b 4 t2 → Calls Try.prog 8 #[.pointer (some ⟨g, 0, none⟩), .int .i64 1] w1 fun e w' => e = .returned (.int .i64 0) ∧ Cr W w' g b 4 t3) ∧
  (∀ w1 g b, Cr W w1 g b 4 t3 → Calls Try.prog 16 #[.pointer (some ⟨g, 0, none⟩)] w1 fun e w' => e = .returned (.tuple #[.int .i64 2, .bool true]) ∧ Cr W w' g b 4 t3) ∧
  (∀ w1 g b, Cr W w1 g b 4 t3 → Calls Try.prog 18 #[.pointer (some ⟨g, 0, none⟩)] w1 fun e w' => ∃ A c, e = .returned (.slice A 2 c) ∧ IL w' A r ∧ Cr W w' g b 4 t3) ∧
  (∀ w1 A B c d, IL w1 A r → IL w1 B r → Calls Try.prog 17 #[.slice A 2 c, .slice B 2 d] w1 fun e w' => e = .returned (.bool true) ∧ Below w1.heap.size w1 w') ∧
  (∀ w1 g b, Cr W w1 g b 4 t3 → Calls Try.prog 12 #[.pointer (some ⟨g, 0, none⟩), .int .i64 3] w1 fun e w' => e = .returned (.int .i64 9) ∧ Below W.heap.size W w')
theorem aw_ask (W : World) : AwAsk W [] [1] [2, 1] [1, 2] [1, 2] := by
  refine ⟨fun w1 g b h => (h.Front 1).mono fun e w' ⟨he, hc, _⟩ => ⟨he, hc⟩, fun w1 g b h => (h.Front 2).mono fun e w' ⟨he, hc, _⟩ => ⟨he, hc⟩, fun w1 g b h => (h.Front 1).mono fun e w' ⟨he, hc, _⟩ => ⟨he, hc⟩, fun w1 g b h => (CLast h.ch).mono fun e w' ⟨he, hb⟩ => ⟨he, h.kept hb⟩, fun w1 g b h => (Row_call h.ch).mono fun e w' ⟨⟨A, c, he, ho⟩, hb⟩ => ⟨A, c, he, ho.il, h.kept hb⟩, fun w1 A B c d hA hB => ?_, fun w1 g b h => (h.Cut 3).mono fun e w' ⟨he, hc, _⟩ => ⟨he, hc.bel⟩⟩
  have := RSame_any A B c d [1, 2] [1, 2] w1 hA hB (by simp) (by simp)
  simpa using this
def AwNew (W : World) (t0 : List Nat) : Prop := ∀ w1, Below W.heap.size W w1 → Calls Try.prog 6 #[.int .i64 4] w1 fun e w' => ∃ g b, e = .returned (.tuple #[.pointer (some ⟨g, 0, none⟩), .int .i64 0]) ∧ Cr W w' g b 4 t0
theorem aw_new (W : World) : AwNew W [] := fun w1 hb => (New_cr W w1 hb 4 (by omega) (by omega)).mono fun _ _ ⟨g, b, he, hr, _⟩ => ⟨g, b, he, hr⟩

set_option maxHeartbeats 1000000 in
theorem awake_core (w : World) (t0 t1 t2 t3 : List Nat) (r : List Int) (hr : ∀ w : World, IL (w.alloc (.cells #[.int .i64 1, .int .i64 2] 3)) (some ⟨w.heap.size, 0, none⟩) r) (hN : AwNew w t0) (hA : AwAsk w t0 t1 t2 t3 r) : Calls Try.prog 7 #[] w fun e w' => e = .returned (.bool true) ∧ Below w.heap.size w w' := by
  have HN := Lib.hid hN
  obtain ⟨h1, h2, h3, h4, h5, h6, h7⟩ := hA
  have H1 := Lib.hid h1
  have H2 := Lib.hid h2
  have H3 := Lib.hid h3
  have H4 := Lib.hid h4
  have H5 := Lib.hid h5
  have H6 := Lib.hid h6
  have H7 := Lib.hid h7
  have HRL := Lib.hid hr
  clear hN h1 h2 h3 h4 h5 h6 h7 hr
  go_enter Try.func7, Try.ntmps7
  go_wp2_with (first
    | (go_at_call 6; refine (HN.out _ (Below.refl _ _)).mono ?_; rintro e w1 ⟨g, b, rfl, hr⟩; have HR1 := Lib.hid hr; clear hr)
    | (go_at_call 8; first
        | (refine (H1.out _ g b HR1.out).mono ?_; rintro e w2 ⟨rfl, hr⟩; have HR2 := Lib.hid hr; clear hr HR1)
        | (refine (H2.out _ g b HR2.out).mono ?_; rintro e w3 ⟨rfl, hr⟩; have HR3 := Lib.hid hr; clear hr HR2)
        | (refine (H3.out _ g b HR3.out).mono ?_; rintro e w4 ⟨rfl, hr⟩; have HR4 := Lib.hid hr; clear hr HR3))
    | (go_at_call 16; refine (H4.out _ g b HR4.out).mono ?_; rintro e w5 ⟨rfl, hr⟩; have HR5 := Lib.hid hr; clear hr)
    | (go_at_call 18; refine (H5.out _ g b HR5.out).mono ?_; rintro e w6 ⟨A6, c6, rfl, hl, hr⟩; have HL6 := Lib.hid hl; have HR6 := Lib.hid hr; clear hr hl)
    | (go_at_call 17; refine (H6.out _ _ _ _ _ (HL6.out.alloc _) (HRL.out _)).mono ?_; rintro e w7 ⟨rfl, hb⟩; have HR7 := Lib.hid ((HR6.out.kept ((Below.refl _ _).alloc (Nat.le_refl _) _)).kept hb); clear hb)
    | (go_at_call 12; refine (H7.out _ g b HR7.out).mono ?_; rintro e w8 ⟨rfl, hb⟩; have HB8 := Lib.hid hb; clear hb))
  go_ret
  exact ⟨rfl, HB8.out⟩
theorem awake_any (w : World) : Calls Try.prog 7 #[] w fun e w' => e = .returned (.bool true) ∧ Below w.heap.size w w' :=
  awake_core w _ _ _ _ _ (fun w => IL.lit 3 w [1, 2] (by simp [maxLen])) (aw_new w) (aw_ask w)

/-- a call, by its kind -/
def actT (n : Nat) (l : List Nat) (kd i : Int) : List Nat := if kd = 0 ∨ kd = 1 then fronT n l i else if kd = 2 then backT n l i else if kd = 3 then cutT n l i else l
set_option maxHeartbeats 1000000 in
theorem step_any {W w : World} {g b n : Nat} {l : List Nat} (h : Cr W w g b n l) (kd i : Int) : Calls Try.prog 21 #[.pointer (some ⟨g, 0, none⟩), .agg #[.int .i64 kd, .int .i64 i]] w fun e w' => e = .returned (.tuple #[]) ∧ Cr W w' g b n (actT n l kd i) ∧ Flow.Into [g, b] w w' := by
  have HI0 : Hid (Flow.Into [g, b] w (w.alloc (.cells #[.int .i64 kd, .int .i64 i] 30))) := Flow.Into.of_below ((Below.refl _ _).alloc (Nat.le_refl _) _)
  have HC := Lib.hid (h.kept ((Below.refl _ w).alloc (Nat.le_refl _) (.cells #[.int .i64 kd, .int .i64 i] 30)))
  have cF := Lib.hid (HC.out.Front i)
  have cB := Lib.hid (HC.out.Back i)
  have cC := Lib.hid (HC.out.Cut i)
  clear h
  by_cases k0 : kd = 0
  · subst k0
    have HE : Hid (actT n l 0 i = fronT n l i) := rfl
    go_enter Try.func21, Try.ntmps21
    go_wp2_with (go_at_call 8; refine cF.out.mono ?_; rintro e w1 ⟨rfl, hc, hI⟩; have HC1 := Lib.hid hc; have HI1 := Lib.hid hI; clear hc hI)
    go_end0
    exact ⟨rfl, by rw [HE.out]; exact HC1.out, HI0.out.trans HI1.out⟩
  by_cases k1 : kd = 1
  · subst k1
    have HE : Hid (actT n l 1 i = fronT n l i) := rfl
    go_enter Try.func21, Try.ntmps21
    go_wp2_with (go_at_call 8; refine cF.out.mono ?_; rintro e w1 ⟨rfl, hc, hI⟩; have HC1 := Lib.hid hc; have HI1 := Lib.hid hI; clear hc hI)
    go_end0
    exact ⟨rfl, by rw [HE.out]; exact HC1.out, HI0.out.trans HI1.out⟩
  by_cases k2 : kd = 2
  · subst k2
    have HE : Hid (actT n l 2 i = backT n l i) := rfl
    go_enter Try.func21, Try.ntmps21
    go_wp2_with (go_at_call 10; refine cB.out.mono ?_; rintro e w1 ⟨rfl, hc, hI⟩; have HC1 := Lib.hid hc; have HI1 := Lib.hid hI; clear hc hI)
    go_end0
    exact ⟨rfl, by rw [HE.out]; exact HC1.out, HI0.out.trans HI1.out⟩
  by_cases k3 : kd = 3
  · subst k3
    have HE : Hid (actT n l 3 i = cutT n l i) := rfl
    go_enter Try.func21, Try.ntmps21
    go_wp2_with (go_at_call 12; refine cC.out.mono ?_; rintro e w1 ⟨rfl, hc, hI⟩; have HC1 := Lib.hid hc; have HI1 := Lib.hid hI; clear hc hI)
    go_end0
    exact ⟨rfl, by rw [HE.out]; exact HC1.out, HI0.out.trans HI1.out⟩
  · have HE : Hid (actT n l kd i = l) := by unfold Hid actT; rw [if_neg (by omega), if_neg k2, if_neg k3]
    have n0 : (kd == 0) = false := by simpa using k0
    have n1 : (kd == 1) = false := by simpa using k1
    have n2 : (kd == 2) = false := by simpa using k2
    have n3 : (kd == 3) = false := by simpa using k3
    clear k0 k1 k2 k3
    go_enter Try.func21, Try.ntmps21
    go_wp2
    go_end0
    exact ⟨rfl, by rw [HE.out]; exact HC.out, HI0.out⟩
end Cn
end Go.Proofs.Ytokgnnmnnjfjbaa
