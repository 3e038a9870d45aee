/-
  Rows made behind a base; the law's awake.
-/
import Derived.Test.YtbdjminofehloaaDoorBitsNew
namespace Go.Proofs.YtbdjminofehloaaDoor
open Go.RowKit
namespace Bt
open Mem

/-- a row that was made behind W, the library's table beside it; of what was there nothing has turned -/
structure Rw (W w : World) (g b : Nat) (tb : List Bool) : Prop where
  row : RowAt w g b tb
  tab : Tab w
  bel : Below W.heap.size W w
  hg : W.heap.size ≤ g
  hb : W.heap.size ≤ b
theorem Tab.below {W w : World} (h : Tab W) (hb : Below W.heap.size W w) : Tab w := h.keep (hb.block _ h.lt)
theorem below_into {B : Nat} {W w w' : World} {S : List Nat} (h : Below B W w) (hi : Flow.Into S w w') (hS : ∀ k, k ∈ S → B ≤ k) (hB : B ≤ w.heap.size) : Below B W w' :=
  h.trans ⟨hi.os, hi.tape, hi.output, hi.size, fun k hk => hi.block k (Nat.lt_of_lt_of_le hk hB) fun hh => absurd hk (Nat.not_lt.2 (hS k hh))⟩
section
variable {W w w' : World} {g b : Nat} {tb tb' : List Bool}
theorem Rw.kept (h : Rw W w g b tb) (hT : Tab W) (hb : Below w.heap.size w w') : Rw W w' g b tb := by
  have h1 := h.bel.trans (hb.mono h.bel.size)
  exact ⟨h.row.kept hb, hT.below h1, h1, h.hg, h.hb⟩
theorem Rw.into (h : Rw W w g b tb) (hT : Tab W) (hi : Flow.Into [b] w w') (hr : RowAt w' g b tb') : Rw W w' g b tb' := by
  have h1 := below_into h.bel hi (by simpa using h.hb) h.bel.size
  exact ⟨hr, hT.below h1, h1, h.hg, h.hb⟩
theorem Rw.Set (h : Rw W w g b tb) (hT : Tab W) (i : Int) : Calls Tryd.prog 11 #[.pointer (some ⟨g, 0, none⟩), .int .i64 i] w fun e w' => e = .returned (.int .i64 (setE tb i)) ∧ Rw W w' g b (setT tb i) ∧ Flow.Into [b] w w' :=
  (Set_any g b i tb w h.row).mono fun _ _ ⟨he, hr, hi⟩ => ⟨he, h.into hT hi hr, hi⟩
theorem Rw.Clear (h : Rw W w g b tb) (hT : Tab W) (i : Int) : Calls Tryd.prog 13 #[.pointer (some ⟨g, 0, none⟩), .int .i64 i] w fun e w' => e = .returned (.int .i64 (clrE tb i)) ∧ Rw W w' g b (clrT tb i) ∧ Flow.Into [b] w w' :=
  (Clear_any g b i tb w h.row).mono fun _ _ ⟨he, hr, hi⟩ => ⟨he, h.into hT hi hr, hi⟩
theorem Rw.Has (h : Rw W w g b tb) (hT : Tab W) (i : Int) : Calls Tryd.prog 19 #[.pointer (some ⟨g, 0, none⟩), .int .i64 i] w fun e w' => e = .returned (.bool (hasB tb i)) ∧ Rw W w' g b tb ∧ Below w.heap.size w w' :=
  (Has_any g b i tb w h.row).mono fun _ _ ⟨he, hb⟩ => ⟨he, h.kept hT hb, hb⟩
theorem Rw.Free (h : Rw W w g b tb) (f : Int) (hf : f ≤ 9223372036854775807) : Calls Tryd.prog 15 #[.pointer (some ⟨g, 0, none⟩), .int .i64 f] w fun e w' => e = .returned (.tuple #[.int .i64 (foI (firstO tb f false)), .bool (foB (firstO tb f false))]) ∧ w = w' :=
  Free_any g b f tb w h.row h.tab hf
theorem Rw.Next (h : Rw W w g b tb) (f : Int) (hf : f ≤ 9223372036854775807) : Calls Tryd.prog 17 #[.pointer (some ⟨g, 0, none⟩), .int .i64 f] w fun e w' => e = .returned (.tuple #[.int .i64 (foI (firstO tb f true)), .bool (foB (firstO tb f true))]) ∧ w = w' :=
  Next_any g b f tb w h.row h.tab hf
end
/-- New, behind whatever base -/
theorem New_rw (W w : World) (hT : Tab W) (hb : Below W.heap.size W w) (n : Nat) (h0 : 1 ≤ n) (h1 : n ≤ 65536) : Calls Tryd.prog 5 #[.int .i64 (n : Int)] w fun e w' => ∃ g b, e = .returned (.tuple #[.pointer (some ⟨g, 0, none⟩), .int .i64 0]) ∧ Rw W w' g b (List.replicate n false) ∧ Below w.heap.size w w' :=
  (New_in n w h0 h1).mono fun _ _ ⟨⟨g, b, he, hr, hg, hbb⟩, hbl⟩ => by
    have h2 := hb.trans (hbl.mono hb.size)
    exact ⟨g, b, he, ⟨hr, hT.below h2, h2, Nat.le_trans hb.size hg, Nat.le_trans hb.size hbb⟩, hbl⟩

def tb0 : List Bool := List.replicate 70 false
def tb1 : List Bool := tb0.set 0 true
def tb2 : List Bool := tb1.set 65 true
theorem aw1 : setE tb0 0 = 0 ∧ setT tb0 0 = tb1 ∧ setE tb1 65 = 0 ∧ setT tb1 65 = tb2 := by decide +kernel
theorem aw2 : foI (firstO tb2 0 false) = 1 ∧ foB (firstO tb2 0 false) = true ∧ foI (firstO tb2 1 true) = 65 ∧ foB (firstO tb2 1 true) = true ∧ setE tb2 0 = 10 ∧ setT tb2 0 = tb2 := by decide +kernel

/-- what awake asks of its row, in its order -/
def AwAsk (W : World) (t0 t1 t2 : List Bool) : Prop :=
  (∀ w1 g b, Rw W w1 g b t0 → Calls Tryd.prog 11 #[.pointer (some ⟨g, 0, none⟩), .int .i64 0] w1 fun e w' => e = .returned (.int .i64 0) ∧ Rw W w' g b t1) ∧
  (∀ w1 g b, Rw W w1 g b t1 → Calls Tryd.prog 11 #[.pointer (some ⟨g, 0, none⟩), .int .i64 65] w1 fun e w' => e = .returned (.int .i64 0) ∧ Rw W w' g b t2) ∧
  (∀ w1 g b, Rw W w1 g b t2 → Calls Tryd.prog 11 #[.pointer (some ⟨g, 0, none⟩), .int .i64 0] w1 fun e w' => e = .returned (.int .i64 10) ∧ Below W.heap.size W w') ∧
  (∀ w1 g b, Rw W w1 g b t2 → Calls Tryd.prog 15 #[.pointer (some ⟨g, 0, none⟩), .int .i64 0] w1 fun e w' => e = .returned (.tuple #[.int .i64 1, .bool true]) ∧ w1 = w') ∧
  (∀ w1 g b, Rw W w1 g b t2 → Calls Tryd.prog 17 #[.pointer (some ⟨g, 0, none⟩), .int .i64 1] w1 fun e w' => e = .returned (.tuple #[.int .i64 65, .bool true]) ∧ w1 = w')
theorem aw_ask (W : World) (hT : Tab W) : AwAsk W tb0 tb1 tb2 := by
  refine ⟨fun w1 g b h => (h.Set hT 0).mono fun e w' ⟨he, hr, _⟩ => ⟨?_, ?_⟩, fun w1 g b h => (h.Set hT 65).mono fun e w' ⟨he, hr, _⟩ => ⟨?_, ?_⟩, fun w1 g b h => (h.Set hT 0).mono fun e w' ⟨he, hr, _⟩ => ⟨?_, hr.bel⟩, fun w1 g b h => (h.Free 0 (by omega)).mono fun e w' ⟨he, hr⟩ => ⟨?_, hr⟩, fun w1 g b h => (h.Next 1 (by omega)).mono fun e w' ⟨he, hr⟩ => ⟨?_, hr⟩⟩
  · rw [he, aw1.1]
  · rw [← aw1.2.1]; exact hr
  · rw [he, aw1.2.2.1]
  · rw [← aw1.2.2.2]; exact hr
  · rw [he, aw2.2.2.2.2.1]
  · rw [he, aw2.1, aw2.2.1]
  · rw [he, aw2.2.2.1, aw2.2.2.2.1]
def AwNew (W : World) (t0 : List Bool) : Prop := ∀ w1, Below W.heap.size W w1 → Calls Tryd.prog 5 #[.int .i64 70] w1 fun e w' => ∃ g b, e = .returned (.tuple #[.pointer (some ⟨g, 0, none⟩), .int .i64 0]) ∧ Rw W w' g b t0
theorem aw_new (W : World) (hT : Tab W) : AwNew W tb0 := fun w1 hb => (New_rw W w1 hT hb 70 (by omega) (by omega)).mono fun _ _ ⟨g, b, he, hr, _⟩ => ⟨g, b, he, hr⟩

set_option maxHeartbeats 1000000 in
theorem awake_core (w : World) (t0 t1 t2 : List Bool) (hN : AwNew w t0) (hA : AwAsk w t0 t1 t2) : Calls Tryd.prog 6 #[] w fun e w' => e = .returned (.bool true) ∧ Below w.heap.size w w' := by
  have HN := Lib.hid hN
  obtain ⟨h1, h2, h3, h4, h5⟩ := hA
  have H1 := Lib.hid h1
  have H2 := Lib.hid h2
  have H3 := Lib.hid h3
  have H4 := Lib.hid h4
  have H5 := Lib.hid h5
  clear hN h1 h2 h3 h4 h5
  go_enter Tryd.func6, Tryd.ntmps6
  go_wp2_with (first
    | (go_at_call 5; refine (HN.out _ (Below.refl _ _)).mono ?_; rintro e w1 ⟨g, b, rfl, hr⟩; have HR1 := Lib.hid hr; clear hr)
    | (go_at_call 11; first
        | (refine (H1.out _ g b HR1.out).mono ?_; rintro e w2 ⟨rfl, hr⟩; have HR2 := Lib.hid hr; clear hr HR1)
        | (refine (H2.out _ g b HR2.out).mono ?_; rintro e w3 ⟨rfl, hr⟩; have HR3 := Lib.hid hr; clear hr HR2)
        | (refine (H3.out _ g b HR3.out).mono ?_; rintro e w4 ⟨rfl, hb⟩; have HB4 := Lib.hid hb; clear hb))
    | (go_at_call 15; refine (H4.out _ g b HR3.out).mono ?_; rintro e w' ⟨rfl, rfl⟩)
    | (go_at_call 17; refine (H5.out _ g b HR3.out).mono ?_; rintro e w' ⟨rfl, rfl⟩))
  go_ret
  exact ⟨rfl, HB4.out⟩
theorem awake_any (w : World) (hT : Tab w) : Calls Tryd.prog 6 #[] w fun e w' => e = .returned (.bool true) ∧ Below w.heap.size w w' :=
  awake_core w _ _ _ (aw_new w hT) (aw_ask w hT)
end Bt
end Go.Proofs.YtbdjminofehloaaDoor
