/-
  Contracts of layer chain: First, Last.
-/
import Derived.Test.YtjnbdmimflhhiaaChainRow
namespace Go.Proofs.Ytjnbdmimflhhiaa
open Go.RowKit
namespace Cn
open Mem

set_option maxHeartbeats 1000000 in
theorem First_some (g b c n : Nat) (k : Int) (A B : Nat → Nat) (w : World) (h : ChW w g b c n k A B) (hk : (k == 0) = false) : Calls Try.prog 85 #[.pointer (some ⟨g, 0, none⟩)] w fun e w' => e = .returned (.tuple #[.int .i64 (B n : Int), .bool true]) ∧ Below w.heap.size w w' := by
  have HR := Lib.hid h
  have cL := fun w h => Lib.hid (Len_any g b c n k A B w h)
  have cE := fun w h => Lib.hid (end_any g b c n k A B w h)
  obtain ⟨d0, -⟩ := h.cells
  have d1 := h.lk.cellB (i := n) (by omega)
  have hn := h.hi
  have hL : (n : Int) < (n : Int) + 1 := by omega
  generalize (B n : Int) = x at *
  have e0 := fun q : Drift.Tide [] w [] => Drift.Tide.cell d0 (by simp) q
  have e1 := fun q : Drift.Tide [] w [] => Drift.Tide.cell d1 (by simp) q
  clear h d0 d1
  go_enter Try.func85, Try.ntmps85
  go_wp2_with (go_at_call 84; refine (cL _ HR.out).out.mono ?_; rintro e w' ⟨rfl, rfl⟩)
  refine Drift.wp_region_drift [] [(0,[]),(1,[]),(2,[]),(3,[]),(4,[]),(5,[]),(6,[]),(7,[]),(8,[]),(9,[]),(10,[])] [] [] (by kernel_rfl) (by kernel_rfl) (by simp) ?_
  simp only [Drift.pick, Drift.opsAt, List.getElem?_toArray, List.getElem?_cons_zero, List.getElem?_cons_succ, List.cons_append, List.nil_append, List.filterMap_nil]
  repeat (refine Drift.walk_step (fun K hK => ?_); go_simp; first | (refine hK _ ?_; clear hK K) | (apply Exists.intro; refine ⟨fun q => ?_, hK _ ?_⟩; (go_at_call 66; exact (cE _ (HR.out.keep (q.into.block g HR.out.g_lt (by simp)) (q.into.block b HR.out.lk.lt (by simp)))).out.mono fun e w' ⟨he, hw⟩ => ⟨he, by subst hw; exact Below.refl _ _⟩); clear hK K))
  refine Drift.walk_nil ?_
  intro w2 hb2 _
  have HB2 := Lib.hid hb2
  clear hb2
  simp only [List.length_cons, List.length_nil, List.drop_succ_cons, List.drop_nil, Nat.zero_add, Nat.reduceAdd]
  go_wp2_with fail
  exact bodyPost_ret (v := .tuple #[.int .i64 x, .bool true]) (by simp [results, Try.results85, go_sem]) rfl ⟨rfl, HB2.out⟩
theorem First_none (g b c n : Nat) (A B : Nat → Nat) (w : World) (h : ChW w g b c n 0 A B) : Calls Try.prog 85 #[.pointer (some ⟨g, 0, none⟩)] w fun e w' => e = .returned (.tuple #[.int .i64 0, .bool false]) ∧ Below w.heap.size w w' := by
  have HR := Lib.hid h
  have cL := fun w h => Lib.hid (Len_any g b c n 0 A B w h)
  clear h
  go_enter Try.func85, Try.ntmps85
  go_wp2_with (go_at_call 84; refine (cL _ HR.out).out.mono ?_; rintro e w' ⟨rfl, rfl⟩)
  exact bodyPost_ret (v := .tuple #[.int .i64 0, .bool false]) (by simp [results, Try.results85, go_sem]) rfl ⟨rfl, Below.refl _ _⟩
set_option maxHeartbeats 1000000 in
theorem Last_some (g b c n : Nat) (k : Int) (A B : Nat → Nat) (w : World) (h : ChW w g b c n k A B) (hk : (k == 0) = false) : Calls Try.prog 90 #[.pointer (some ⟨g, 0, none⟩)] w fun e w' => e = .returned (.tuple #[.int .i64 (A n : Int), .bool true]) ∧ Below w.heap.size w w' := by
  have HR := Lib.hid h
  have cL := fun w h => Lib.hid (Len_any g b c n k A B w h)
  have cE := fun w h => Lib.hid (end_any g b c n k A B w h)
  obtain ⟨d0, -⟩ := h.cells
  have d1 := h.lk.cellA (i := n) (by omega)
  have hn := h.hi
  have hL : (n : Int) < (n : Int) + 1 := by omega
  generalize (A n : Int) = x at *
  have e0 := fun q : Drift.Tide [] w [] => Drift.Tide.cell d0 (by simp) q
  have e1 := fun q : Drift.Tide [] w [] => Drift.Tide.cell d1 (by simp) q
  clear h d0 d1
  go_enter Try.func90, Try.ntmps90
  go_wp2_with (go_at_call 84; refine (cL _ HR.out).out.mono ?_; rintro e w' ⟨rfl, rfl⟩)
  refine Drift.wp_region_drift [] [(0,[]),(1,[]),(2,[]),(3,[]),(4,[]),(5,[]),(6,[]),(7,[]),(8,[]),(9,[]),(10,[])] [] [] (by kernel_rfl) (by kernel_rfl) (by simp) ?_
  simp only [Drift.pick, Drift.opsAt, List.getElem?_toArray, List.getElem?_cons_zero, List.getElem?_cons_succ, List.cons_append, List.nil_append, List.filterMap_nil]
  repeat (refine Drift.walk_step (fun K hK => ?_); go_simp; first | (refine hK _ ?_; clear hK K) | (apply Exists.intro; refine ⟨fun q => ?_, hK _ ?_⟩; (go_at_call 66; exact (cE _ (HR.out.keep (q.into.block g HR.out.g_lt (by simp)) (q.into.block b HR.out.lk.lt (by simp)))).out.mono fun e w' ⟨he, hw⟩ => ⟨he, by subst hw; exact Below.refl _ _⟩); clear hK K))
  refine Drift.walk_nil ?_
  intro w2 hb2 _
  have HB2 := Lib.hid hb2
  clear hb2
  simp only [List.length_cons, List.length_nil, List.drop_succ_cons, List.drop_nil, Nat.zero_add, Nat.reduceAdd]
  go_wp2_with fail
  exact bodyPost_ret (v := .tuple #[.int .i64 x, .bool true]) (by simp [results, Try.results90, go_sem]) rfl ⟨rfl, HB2.out⟩
theorem Last_none (g b c n : Nat) (A B : Nat → Nat) (w : World) (h : ChW w g b c n 0 A B) : Calls Try.prog 90 #[.pointer (some ⟨g, 0, none⟩)] w fun e w' => e = .returned (.tuple #[.int .i64 0, .bool false]) ∧ Below w.heap.size w w' := by
  have HR := Lib.hid h
  have cL := fun w h => Lib.hid (Len_any g b c n 0 A B w h)
  clear h
  go_enter Try.func90, Try.ntmps90
  go_wp2_with (go_at_call 84; refine (cL _ HR.out).out.mono ?_; rintro e w' ⟨rfl, rfl⟩)
  exact bodyPost_ret (v := .tuple #[.int .i64 0, .bool false]) (by simp [results, Try.results90, go_sem]) rfl ⟨rfl, Below.refl _ _⟩
end Cn
end Go.Proofs.Ytjnbdmimflhhiaa
