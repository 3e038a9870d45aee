/-
  Contracts of layer dev: Read, Write.
-/
import Derived.Test.YtjnbdmimflhhiaaDevCalls
namespace Go.Proofs.Ytjnbdmimflhhiaa
open Go.RowKit
namespace Dv
open Mem

theorem into_more {S S' : List Nat} {a b c : World} (h : Flow.Into S a b) (k : Flow.Into S' b c) (hn : ∀ x, x ∈ S' → x ∈ S ∨ a.heap.size ≤ x) : Flow.Into S a c :=
  ⟨k.os.trans h.os, k.tape.trans h.tape, k.output.trans h.output, Nat.le_trans h.size k.size, fun i hi hs => (k.block i (Nat.lt_of_lt_of_le hi h.size) (fun hh => by
    rcases hn i hh with h' | h'
    · exact hs h'
    · omega)).trans (h.block i hi hs)⟩
theorem splice_whole {α : Type} {L l : List α} (h : l.length = L.length) : splice L 0 l = l := by
  simp [splice, h]
/-- what a block's slice reads as, nil or not -/
theorem DevW.look {w : World} {g b c m : Nat} {bks : List Bk} {ls : List (List UInt8)} {r s : Nat} (h : DevW w g b c m bks ls r s) {i : Nat} {x : List UInt8} (hy : ls[i]? = some x) :
    ∃ A n' k' l', w.cell? ⟨b, i, none⟩ = some (.slice A n' k') ∧ BL w A l' ∧ l'.length = n' ∧ n' ≤ m ∧ Go.splice (bytesV (List.replicate m 0)) 0 (bytesV l') = bytesV x := by
  obtain ⟨hi, -⟩ := List.getElem?_eq_some_iff.1 hy
  have hib : i < bks.length := by rw [h.len]; exact hi
  have hx : bks[i]? = some bks[i] := List.getElem?_eq_getElem hib
  have hc := h.bcell hx
  match e : bks[i] with
  | none =>
    rw [e] at hx hc
    have h1 := h.no i hx
    rw [hy] at h1
    refine ⟨none, 0, 0, [], hc, BL.nil _ _, rfl, Nat.zero_le _, ?_⟩
    rw [Option.some.inj h1]
    simp [Go.splice, bytesV]
  | some (q, o, k) =>
    rw [e] at hx hc
    obtain ⟨_, _, _, C, x', h4, h5, h6, h7⟩ := h.yes i q o k hx
    rw [hy] at h6
    obtain rfl := Option.some.inj h6
    obtain ⟨hl, hb⟩ := cells_win h4 h5 h7
    refine ⟨some ⟨q, o, none⟩, m, k, x, hc, hb, hl, Nat.le_refl _, splice_whole (by simp [hl])⟩

section
variable {w : World} {S : List Nat} {g m : Nat} {ls : List (List UInt8)} {r s : Nat}
set_option maxHeartbeats 1000000 in
theorem Read_out (h : Dev w S g m ls r s) (i : Nat) (hi : ls.length ≤ i) : Calls Try.prog 70 #[.pointer (some ⟨g, 0, none⟩), .int .u32 (i : Int)] w fun e w' => e = .returned (.tuple #[.slice none 0 0, .int .i64 4]) ∧ w = w' := by
  have cP := Lib.hid (place_out h i hi)
  clear h hi
  go_enter Try.func70, Try.ntmps70
  go_wp2_with (go_at_call 91; refine cP.out.mono ?_; rintro e w' ⟨rfl, rfl⟩)
  exact bodyPost_ret (v := .tuple #[.slice none 0 0, .int .i64 4]) (by simp [results, Try.results70, go_sem]) rfl ⟨rfl, rfl⟩
set_option maxHeartbeats 2000000 in
theorem Read_in (h : Dev w S g m ls r s) (i : Nat) (x : List UInt8) (hx : ls[i]? = some x) (hr : r ≤ 1000000) : Calls Try.prog 70 #[.pointer (some ⟨g, 0, none⟩), .int .u32 (i : Int)] w fun e w' => (∃ q k, e = .returned (.tuple #[.slice (some ⟨q, 0, none⟩) m k, .int .i64 0]) ∧ Row 5 w' q x ∧ w.heap.size ≤ q) ∧ Dev w' S g m ls (r + 1) s ∧ Flow.Into [g] w w' := by
  obtain ⟨hi, hx'⟩ := List.getElem?_eq_some_iff.1 hx
  have cP := Lib.hid (place_in h i hi)
  have hmk := fun w => run_make_at (P := Try.prog) Try.underlying42 u8info rfl (by omega) m (by have := h.m2; omega) w
  obtain ⟨⟨b, c, bks, h1, h2⟩, m1, m2, n1, n2, h7⟩ := h
  have H7 := Lib.hid h7
  clear h7
  obtain ⟨d0, d1, d2, d3⟩ := h1.cells
  have f2 := h1.free 2
  have hwr : IntKind.u64.wrap ((r : Int) + 1) = (r : Int) + 1 := by rw [IntKind.wrap_u64]; omega
  have HW := Lib.hid h1
  have HS := Lib.hid h2
  have hib : i < bks.length := by rw [h1.len]; exact hi
  obtain ⟨n, hn⟩ : ∃ n, n = bks.length := ⟨_, rfl⟩
  rw [← hn] at d1 hib
  have HN := Lib.hid hn
  have HX := Lib.hid hx
  clear hx hx' h1 h2 hi hn d0 d1 d3
  go_enter Try.func70, Try.ntmps70
  go_upto_region 5 with (go_at_call 91; refine cP.out.mono ?_; rintro e w' ⟨rfl, rfl⟩)
  have hr1 := HW.out.read
  generalize w.setCell ⟨g, 2, none⟩ (.int .u64 ((r : Int) + 1)) = w1 at *
  obtain ⟨hw1, hi1⟩ := hr1
  have HW1 := Lib.hid hw1
  have HI1 := Lib.hid hi1
  obtain ⟨d0, d1, -, -⟩ := hw1.cells
  rw [← HN.out] at d1
  clear d2 f2 hw1 hi1
  go_upto_region 6 with fail
  have hrow : Row 5 (w1.alloc (.cells (Array.replicate m (.int .u8 0)) 5)) w1.heap.size (List.replicate m 0) := by
    have := Row.new 5 w1 (List.replicate m 0)
    simpa [bytesV, byteV] using this
  have hb2 : Below w1.heap.size w1 (w1.alloc (.cells (Array.replicate m (.int .u8 0)) 5)) := (Below.refl _ _).alloc (Nat.le_refl _) _
  generalize w1.alloc (.cells (Array.replicate m (.int .u8 0)) 5) = w2 at *
  have HW2 := Lib.hid (HW1.out.kept hb2)
  obtain ⟨q, hq⟩ : ∃ q, q = w1.heap.size := ⟨_, rfl⟩
  have hqs : w.heap.size ≤ q := by have := HI1.out.size; omega
  rw [← hq] at hrow ⊢
  have HROW : Hid (Cells 5 w2 q (bytesV (List.replicate m 0))) := Lib.hid hrow
  have HB2 := Lib.hid hb2
  have HQ := Lib.hid hq
  obtain ⟨A, n', k', l', e1, e2, e3, e4, e5⟩ := HW2.out.look HX.out
  have HE2 := Lib.hid e2
  have HE3 := Lib.hid e3
  have HE5 := Lib.hid e5
  obtain ⟨d0, d1, -, -⟩ := HW2.out.cells
  rw [← HN.out] at d1
  clear hrow hb2 hq e2 e3 e5
  go_wp2_with (with_reducible refine wpList_copy_into rfl (.tmp 28) (.tmp 35) _ _ rfl 5 Try.underlying42 u8size q 0 m m n' k' A rfl rfl (bytesV (List.replicate m 0)) l' HROW.out HE3.out HE2.out e4 (by simp) ?_; intro w3 hr3 hi3)
  refine bodyPost_ret (v := .tuple #[.slice (some ⟨q, 0, none⟩) m m, .int .i64 0]) (by simp [results, Try.results70, go_sem]) rfl ⟨⟨q, m, rfl, ?_, hqs⟩, ⟨⟨b, c, bks, ?_, HS.out⟩, m1, m2, n1, n2, fun k hk => Nat.lt_of_lt_of_le (H7.out k hk) (Nat.le_trans HI1.out.size (Nat.le_trans HB2.out.size hi3.out.size))⟩, ?_⟩
  · have := hr3.out
    rw [HE5.out] at this
    exact this
  · refine HW2.out.into hi3.out fun k hk => ?_
    have := HW1.out.lt k hk
    have := HQ.out
    simp; omega
  · refine into_more (HI1.out.trans (Flow.Into.of_below HB2.out)) hi3.out fun y hy => .inr ?_
    obtain rfl : y = q := by simpa using hy
    exact hqs
end
end Dv
end Go.Proofs.Ytjnbdmimflhhiaa
