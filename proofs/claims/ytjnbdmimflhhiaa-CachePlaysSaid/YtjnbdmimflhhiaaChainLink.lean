/-
  Contracts of layer chain: join, loosen.
-/
import Derived.Test.YtjnbdmimflhhiaaChainEnds
namespace Go.Proofs.Ytjnbdmimflhhiaa
open Go.RowKit
namespace Cn
open Mem

theorem into_more {S : List Nat} {w w' : World} (h : Flow.Into S w w') (a : Addr) (v : Value) (ha : a.block ∈ S) : Flow.Into S w (w'.setCell a v) := h.trans (into_set w' a v ha)
theorem into2 {g b : Nat} (w : World) (a : Addr) (v : Value) (ha : a.block = g ∨ a.block = b) : Flow.Into [g, b] w (w.setCell a v) := into_set w a v (by simpa using ha)
set_option maxHeartbeats 1000000 in
theorem join_any (g b c n i a : Nat) (k : Int) (A B : Nat → Nat) (w : World) (h : ChW w g b c n k A B) (hi : i ≤ n) (ha : a ≤ n) (hb : B a ≤ n) (hk : 0 ≤ k ∧ k ≤ 4096) (hia : i ≠ a) (hib : i ≠ B a) : Calls Try.prog 65 #[.pointer (some ⟨g, 0, none⟩), .int .i64 (i : Int), .int .i64 (a : Int)] w fun e w' => e = .returned (.tuple #[]) ∧ ChW w' g b c n (k + 1) (upd (upd A i a) (B a) i) (upd (upd B i (B a)) a i) ∧ Flow.Into [g, b] w w' := by
  have HR := Lib.hid h
  obtain ⟨d0, d1⟩ := h.cells
  have d2 := h.lk.cellB (i := a) (by omega)
  have d3 := h.lk.cellA (i := i) (by omega)
  have d4 := h.lk.cellB (i := i) (by omega)
  have d5 := h.lk.cellA (i := B a) (by omega)
  have f0 := h.gfree
  have f1 := h.lk.free
  have hn := h.hi
  have hne := h.ne
  have hwk : IntKind.i64.wrap (k + 1) = k + 1 := by rw [IntKind.wrap_i64]; omega
  obtain ⟨x, hx⟩ : ∃ x, x = B a := ⟨_, rfl⟩
  rw [← hx] at d2 d5 hb hib ⊢
  have HX := Lib.hid hx
  generalize (A i : Int) = y1 at d3
  generalize (B i : Int) = y2 at d4
  generalize (A x : Int) = y3 at d5
  clear h hx
  have n1 : i * 2 ≠ a * 2 + 1 := by omega
  have n2 : a * 2 + 1 ≠ i * 2 := by omega
  have n3 : i * 2 + 1 ≠ x * 2 := by omega
  have n4 : x * 2 ≠ i * 2 + 1 := by omega
  have n5 : a * 2 + 1 ≠ x * 2 := by omega
  have n6 : x * 2 ≠ a * 2 + 1 := by omega
  have hL1 : (i : Int) < (n : Int) + 1 := by omega
  have hL2 : (a : Int) < (n : Int) + 1 := by omega
  have hL3 : (x : Int) < (n : Int) + 1 := by omega
  have HB := Lib.hid hb
  have HI := Lib.hid hi
  have HA := Lib.hid ha
  clear hb hi ha
  go_enter Try.func65, Try.ntmps65
  go_wp2
  go_end0
  refine ⟨rfl, ((((HR.out.setA HI.out a).setB HI.out x).setB HA.out i).setA HB.out i).setK _, ?_⟩
  refine into_more (into_more (into_more (into_more (into_more (Flow.Into.refl _ _) _ _ ?_) _ _ ?_) _ _ ?_) _ _ ?_) _ _ ?_ <;> simp

theorem loosen_out (g b c n i : Nat) (k : Int) (A B : Nat → Nat) (w : World) (h : ChW w g b c n k A B) (hi : i < n) (hb : B i = i) : Calls Try.prog 64 #[.pointer (some ⟨g, 0, none⟩), .int .i64 (i : Int)] w fun e w' => e = .returned (.tuple #[]) ∧ w = w' := by
  have HR := Lib.hid h
  have cH := fun w h => Lib.hid (Has_in g b c n i k A B w h hi)
  rw [hb, bne_self_eq_false] at cH
  clear h hb
  go_enter Try.func64, Try.ntmps64
  go_wp2_with (go_at_call 89; refine (cH _ HR.out).out.mono ?_; rintro e w' ⟨rfl, rfl⟩)
  refine bodyPost_ret (results_none rfl _ _ _) rfl ⟨rfl, rfl⟩
set_option maxHeartbeats 1000000 in
theorem loosen_in (g b c n i : Nat) (k : Int) (A B : Nat → Nat) (w : World) (h : ChW w g b c n k A B) (hi : i < n) (hb : B i ≤ n) (ha : A i ≤ n) (hk : 0 ≤ k ∧ k ≤ 4096) (hia : A i ≠ i) (hib : B i ≠ i) : Calls Try.prog 64 #[.pointer (some ⟨g, 0, none⟩), .int .i64 (i : Int)] w fun e w' => e = .returned (.tuple #[]) ∧ ChW w' g b c n (k - 1) (upd (upd A (B i) (A i)) i i) (upd (upd B (A i) (B i)) i i) ∧ Flow.Into [g, b] w w' := by
  have HR := Lib.hid h
  have cH := fun w h => Lib.hid (Has_in g b c n i k A B w h hi)
  rw [show (B i != i) = true by simpa using hib] at cH
  obtain ⟨d0, d1⟩ := h.cells
  have d3 := h.lk.cellA (i := i) (by omega)
  have d4 := h.lk.cellB (i := i) (by omega)
  have d2 := h.lk.cellB (i := A i) (by omega)
  have d5 := h.lk.cellA (i := B i) (by omega)
  have f0 := h.gfree
  have f1 := h.lk.free
  have hn := h.hi
  have hne := h.ne
  have hwk : IntKind.i64.wrap (k - 1) = k - 1 := by rw [IntKind.wrap_i64]; omega
  obtain ⟨x, hx⟩ : ∃ x, x = B i := ⟨_, rfl⟩
  obtain ⟨a, hxa⟩ : ∃ a, a = A i := ⟨_, rfl⟩
  rw [← hx] at d4 d5 hb hib ⊢
  rw [← hxa] at d2 d3 ha hia ⊢
  generalize (B a : Int) = y2 at d2
  generalize (A x : Int) = y3 at d5
  have hs := h.g_lt
  have hs2 := h.lk.lt
  clear h hx hxa
  have hL1 : (i : Int) < (n : Int) + 1 := by omega
  have hL2 : (a : Int) < (n : Int) + 1 := by omega
  have hL3 : (x : Int) < (n : Int) + 1 := by omega
  have HB := Lib.hid hb
  have HI := Lib.hid hi
  have HA := Lib.hid ha
  clear hb hi ha
  go_enter Try.func64, Try.ntmps64
  go_wp2_with (go_at_call 89; refine (cH _ HR.out).out.mono ?_; rintro e w' ⟨rfl, rfl⟩)
  obtain ⟨w1, hw1⟩ : ∃ w1, w1 = w.alloc (Obj.cells #[.int .i64 (a : Int), .int .i64 (x : Int)] 103) := ⟨_, rfl⟩
  have hB1 : Below w.heap.size w w1 := by rw [hw1]; exact (Below.refl _ _).alloc (Nat.le_refl _) _
  have l0 : w1.cell? ⟨w.heap.size, 0, none⟩ = some (.int .i64 (a : Int)) := by rw [hw1]; exact congrArg (fun o => match o with | some (Obj.cells c _ _) => c[0]? | _ => none) (heap_alloc_new w (.cells #[.int .i64 (a : Int), .int .i64 (x : Int)] 103))
  have l1 : w1.cell? ⟨w.heap.size, 1, none⟩ = some (.int .i64 (x : Int)) := by rw [hw1]; exact congrArg (fun o => match o with | some (Obj.cells c _ _) => c[1]? | _ => none) (heap_alloc_new w (.cells #[.int .i64 (a : Int), .int .i64 (x : Int)] 103))
  have ht : w.heap.size < w1.heap.size := by rw [hw1]; simp
  rw [← hw1]
  have HR1 := Lib.hid (HR.out.kept hB1)
  have HB1 := Lib.hid hB1
  obtain ⟨t, htt⟩ : ∃ t, t = w.heap.size := ⟨_, rfl⟩
  rw [← htt] at l0 l1 ht hs hs2 ⊢
  have HT := Lib.hid htt
  have hcd := HR1.out.cells.1
  have d2' := (Below.cell hB1 (p := ⟨b, a * 2 + 1, none⟩) (by rw [← htt]; exact hs2)).trans d2
  have d3' := (Below.cell hB1 (p := ⟨b, i * 2, none⟩) (by rw [← htt]; exact hs2)).trans d3
  have d4' := (Below.cell hB1 (p := ⟨b, i * 2 + 1, none⟩) (by rw [← htt]; exact hs2)).trans d4
  have d5' := (Below.cell hB1 (p := ⟨b, x * 2, none⟩) (by rw [← htt]; exact hs2)).trans d5
  clear hw1 hB1 htt d0 d1 d2 d3 d4 d5 f0 f1 cH
  have e0 := fun q : Drift.Tide [] w1 [] => Drift.Tide.cell hcd (by simp) q
  have e1 := fun q : Drift.Tide [] w1 [] => Drift.Tide.cell l0 (by simp) q
  have e2 := fun q : Drift.Tide [] w1 [] => Drift.Tide.cell l1 (by simp) q
  have D2 := Lib.hid d2'
  have D3 := Lib.hid d3'
  have D4 := Lib.hid d4'
  have D5 := Lib.hid d5'
  have L0 := Lib.hid l0
  have L1 := Lib.hid l1
  clear hcd l0 l1 d2' d3' d4' d5'
  refine Drift.wp_region_drift [] [(0,[]),(1,[]),(2,[]),(3,[]),(4,[]),(5,[]),(6,[]),(7,[])] [] [] (by kernel_rfl) (by kernel_rfl) (by simp) ?_
  simp only [Drift.pick, Drift.opsAt, List.getElem?_toArray, List.getElem?_cons_zero, List.getElem?_cons_succ, List.cons_append, List.nil_append, List.filterMap_nil]
  repeat (refine Drift.walk_step (fun K hK => ?_); go_simp; refine hK _ ?_; clear hK K)
  refine Drift.walk_nil ?_
  intro w2 hb2 _
  clear e0 e1 e2
  have d2 := (Below.cell hb2 (p := ⟨b, a * 2 + 1, none⟩) (Nat.lt_trans hs2 ht)).trans D2.out
  have d3 := (Below.cell hb2 (p := ⟨b, i * 2, none⟩) (Nat.lt_trans hs2 ht)).trans D3.out
  have d4 := (Below.cell hb2 (p := ⟨b, i * 2 + 1, none⟩) (Nat.lt_trans hs2 ht)).trans D4.out
  have d5 := (Below.cell hb2 (p := ⟨b, x * 2, none⟩) (Nat.lt_trans hs2 ht)).trans D5.out
  have l0 := (Below.cell hb2 (p := ⟨t, 0, none⟩) ht).trans L0.out
  have l1 := (Below.cell hb2 (p := ⟨t, 1, none⟩) ht).trans L1.out
  have HR2 := Lib.hid (HR1.out.kept hb2)
  have HB2 := Lib.hid hb2
  have f1 := HR2.out.lk.free
  clear hb2 D2 D3 D4 D5 L0 L1
  simp only [List.length_cons, List.length_nil, List.drop_succ_cons, Nat.zero_add, Nat.reduceAdd]
  go_wp2_with fail
  obtain ⟨w3, hw3⟩ : ∃ w3, w3 = w2.setCell ⟨b, a * 2 + 1, none⟩ (.int .i64 (x : Int)) := ⟨_, rfl⟩
  rw [← hw3]
  have HI3 : Hid (Flow.Into [g, b] w w3) := by
    rw [hw3]
    exact into_more ((Flow.Into.of_below HB1.out).trans ((Flow.Into.of_below HB2.out))) _ _ (by simp)
  have HR3 : Hid (ChW w3 g b c n k A (upd B a x)) := by rw [hw3]; exact HR2.out.setB HA.out x
  have htb : t ≠ b := by omega
  have htb' : b ≠ t := by omega
  have m0 : w3.cell? ⟨t, 0, none⟩ = some (.int .i64 (a : Int)) := by rw [hw3, World.cell?_setCell_other w2 _ _ _ (by simp)]; exact l0
  have m1 : w3.cell? ⟨t, 1, none⟩ = some (.int .i64 (x : Int)) := by rw [hw3, World.cell?_setCell_other w2 _ _ _ (by simp)]; exact l1
  have ht3 : t < w3.heap.size := World.block_lt_of_cell? w3 _ m0
  clear hw3 l0 l1 d2 d3 d4 d5 f1 HR2 HR1
  have hcd := HR3.out.cells.1
  have e0 := fun q : Drift.Tide [] w3 [] => Drift.Tide.cell hcd (by simp) q
  have e1 := fun q : Drift.Tide [] w3 [] => Drift.Tide.cell m0 (by simp) q
  have e2 := fun q : Drift.Tide [] w3 [] => Drift.Tide.cell m1 (by simp) q
  clear hcd m0 m1
  refine Drift.wp_region_drift [] [(0,[]),(1,[]),(2,[]),(3,[]),(4,[]),(5,[]),(6,[]),(7,[])] [] [] (by kernel_rfl) (by kernel_rfl) (by simp) ?_
  simp only [Drift.pick, Drift.opsAt, List.getElem?_toArray, List.getElem?_cons_zero, List.getElem?_cons_succ, List.cons_append, List.nil_append, List.filterMap_nil]
  repeat (refine Drift.walk_step (fun K hK => ?_); go_simp; refine hK _ ?_; clear hK K)
  refine Drift.walk_nil ?_
  intro w4 hb4 _
  clear e0 e1 e2
  have HR4 := Lib.hid (HR3.out.kept hb4)
  have HI4 : Hid (Flow.Into [g, b] w w4) := HI3.out.trans (Flow.Into.of_below hb4)
  clear hb4
  obtain ⟨d0, d1⟩ := HR4.out.cells
  have d3 := HR4.out.lk.cellA (i := i) (by have := HI.out; omega)
  have d4 := HR4.out.lk.cellB (i := i) (by have := HI.out; omega)
  have d5 := HR4.out.lk.cellA (i := x) (by have := HB.out; omega)
  have f0 := HR4.out.gfree
  have f1 := HR4.out.lk.free
  generalize (A i : Int) = z1 at d3
  generalize (upd B a x i : Int) = z2 at d4
  generalize (A x : Int) = z3 at d5
  have n1 : i * 2 ≠ x * 2 := by omega
  have n2 : x * 2 ≠ i * 2 := by omega
  have n3 : i * 2 + 1 ≠ x * 2 := by omega
  have n4 : x * 2 ≠ i * 2 + 1 := by omega
  have n5 : i * 2 + 1 ≠ i * 2 := by omega
  simp only [List.length_cons, List.length_nil, List.drop_succ_cons, Nat.zero_add, Nat.reduceAdd]
  go_wp2_with fail
  go_end0
  refine ⟨rfl, (((HR4.out.setA HB.out a).setA (Nat.le_of_lt HI.out) i).setB (Nat.le_of_lt HI.out) i).setK _, ?_⟩
  refine into_more (into_more (into_more (into_more HI4.out _ _ ?_) _ _ ?_) _ _ ?_) _ _ ?_ <;> simp
end Cn
end Go.Proofs.Ytjnbdmimflhhiaa
