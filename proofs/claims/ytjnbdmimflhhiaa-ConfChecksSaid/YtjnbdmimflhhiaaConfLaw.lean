/-
  The laws of layer conf, walked. Written by scripts/conf5.py.
-/
import Derived.Test.YtjnbdmimflhhiaaConf4
import Derived.Test.YtjnbdmimflhhiaaArgs
import Derived.Deep.Fields
namespace Go.Proofs.Ytjnbdmimflhhiaa
open Go.RowKit Go.WideShapes Go.ChangeShapes Go.Deep
namespace Cf

theorem few_le {fa bu le ke va y : Int} : few fa bu le ke va ≤ y ↔ 64 ≤ y ∧ inn fa bu ke va ≤ y ∧ out le ke va ≤ y := by
  unfold few
  omega
set_option maxRecDepth 100000 in
set_option maxHeartbeats 2000000 in
theorem RRight_yes (b y fr fa bu le ke va : Int) (W : World) (h : Right b y fr fa bu le ke va) : Calls Try.prog 25 #[.agg #[.int .i64 b, .int .i64 y, .int .i64 fr, .int .i64 fa, .int .i64 bu, .int .i64 le, .int .i64 ke, .int .i64 va]] W fun e w' => e = .returned (.bool true) ∧ Below W.heap.size W w' := by
  obtain ⟨hs, ⟨a1, a2⟩, ⟨a3, a4⟩, a5, a6⟩ := h
  obtain ⟨a5, a7, a8⟩ := few_le.1 a5
  have cS := fun W => Lib.hid (Sized_yes b y fr fa bu le ke va W hs)
  have cI := fun W => Lib.hid (RInner_yes b y fr fa bu le ke va W hs)
  have cO := fun W => Lib.hid (ROuter_yes b y fr fa bu le ke va W hs)
  clear hs
  generalize inn fa bu ke va = P at *
  generalize out le ke va = Q at *
  go_enter Try.func25, Try.ntmps25
  go_upto_region 1 with fail
  have hx := heap_alloc_new W (.cells #[.int .i64 b, .int .i64 y, .int .i64 fr, .int .i64 fa, .int .i64 bu, .int .i64 le, .int .i64 ke, .int .i64 va] 64)
  have hb1 : Below W.heap.size W (W.alloc (.cells #[.int .i64 b, .int .i64 y, .int .i64 fr, .int .i64 fa, .int .i64 bu, .int .i64 le, .int .i64 ke, .int .i64 va] 64)) := (Below.refl _ _).alloc (Nat.le_refl _) _
  obtain ⟨g, hg⟩ : ∃ g, g = W.heap.size := ⟨_, rfl⟩
  generalize W.alloc (.cells #[.int .i64 b, .int .i64 y, .int .i64 fr, .int .i64 fa, .int .i64 bu, .int .i64 le, .int .i64 ke, .int .i64 va] 64) = w1 at *
  rw [← hg] at hx ⊢
  have HX := Lib.hid hx
  have HB := Lib.hid hb1
  obtain ⟨c0, c1, c2, c3, c4, c5, c6, c7⟩ := box8 hx
  clear hx hb1 hg
  have z0 := fun q : Drift.Tide [] w1 [] => Drift.Tide.cell c0 (by simp) q
  have z1 := fun q : Drift.Tide [] w1 [] => Drift.Tide.cell c1 (by simp) q
  have z2 := fun q : Drift.Tide [] w1 [] => Drift.Tide.cell c2 (by simp) q
  have z3 := fun q : Drift.Tide [] w1 [] => Drift.Tide.cell c3 (by simp) q
  have z4 := fun q : Drift.Tide [] w1 [] => Drift.Tide.cell c4 (by simp) q
  have z5 := fun q : Drift.Tide [] w1 [] => Drift.Tide.cell c5 (by simp) q
  have z6 := fun q : Drift.Tide [] w1 [] => Drift.Tide.cell c6 (by simp) q
  have z7 := fun q : Drift.Tide [] w1 [] => Drift.Tide.cell c7 (by simp) q
  clear c0 c1 c2 c3 c4 c5 c6 c7
  refine Drift.wp_region_drift [] [(0,[]),(1,[]),(2,[]),(3,[]),(4,[]),(5,[]),(6,[]),(7,[]),(8,[]),(9,[]),(10,[]),(11,[]),(12,[]),(13,[]),(14,[]),(15,[]),(16,[]),(17,[]),(18,[]),(19,[]),(20,[]),(21,[]),(22,[]),(23,[]),(24,[]),(25,[]),(26,[]),(27,[]),(28,[]),(29,[]),(30,[]),(31,[])] [] [] (by kernel_rfl) (by kernel_rfl) (by simp) ?_
  simp only [Drift.pick, Drift.opsAt, List.getElem?_toArray, List.getElem?_cons_zero, List.getElem?_cons_succ, List.cons_append, List.nil_append, List.filterMap_nil]
  repeat (refine Drift.walk_step (fun K hK => ?_); go_simp; first | (refine hK _ ?_; clear hK K) | (apply Exists.intro; refine ⟨fun q => ?_, hK _ ?_⟩; (first | (go_at_call 57; exact (cS _).out) | (go_at_call 59; exact (cI _).out) | (go_at_call 60; exact (cO _).out) | (go_at_call 58; exact in_yes _ _ _ _ (by omega) (by omega)) | (go_at_call 58; exact in_no _ _ _ _ (by omega))); clear hK K))
  refine Drift.walk_nil ?_
  intro w2 hb _
  replace HB := Lib.hid (bel2 HB.out hb)
  clear hb z0 z1 z2 z3 z4 z5 z6 z7 HX cS cI cO
  simp only [List.length_cons, List.length_nil, List.drop_succ_cons, List.drop_nil, Nat.zero_add, Nat.reduceAdd]
  go_wp2
  go_ret
  exact ⟨rfl, HB.out⟩
set_option maxRecDepth 100000 in
set_option maxHeartbeats 2000000 in
theorem RRight_no (b y fr fa bu le ke va : Int) (W : World) (h : ¬ Right b y fr fa bu le ke va) : Calls Try.prog 25 #[.agg #[.int .i64 b, .int .i64 y, .int .i64 fr, .int .i64 fa, .int .i64 bu, .int .i64 le, .int .i64 ke, .int .i64 va]] W fun e w' => e = .returned (.bool false) ∧ Below W.heap.size W w' := by
  by_cases hs : Shape fa bu le ke va
  case neg =>
    have cS := fun W => Lib.hid (Sized_no b y fr fa bu le ke va W hs)
    clear h hs
    go_enter Try.func25, Try.ntmps25
    go_upto_region 1 with fail
    have hx := heap_alloc_new W (.cells #[.int .i64 b, .int .i64 y, .int .i64 fr, .int .i64 fa, .int .i64 bu, .int .i64 le, .int .i64 ke, .int .i64 va] 64)
    have hb1 : Below W.heap.size W (W.alloc (.cells #[.int .i64 b, .int .i64 y, .int .i64 fr, .int .i64 fa, .int .i64 bu, .int .i64 le, .int .i64 ke, .int .i64 va] 64)) := (Below.refl _ _).alloc (Nat.le_refl _) _
    obtain ⟨g, hg⟩ : ∃ g, g = W.heap.size := ⟨_, rfl⟩
    generalize W.alloc (.cells #[.int .i64 b, .int .i64 y, .int .i64 fr, .int .i64 fa, .int .i64 bu, .int .i64 le, .int .i64 ke, .int .i64 va] 64) = w1 at *
    rw [← hg] at hx ⊢
    have HX := Lib.hid hx
    have HB := Lib.hid hb1
    obtain ⟨c0, c1, c2, c3, c4, c5, c6, c7⟩ := box8 hx
    clear hx hb1 hg
    have z0 := fun q : Drift.Tide [] w1 [] => Drift.Tide.cell c0 (by simp) q
    have z1 := fun q : Drift.Tide [] w1 [] => Drift.Tide.cell c1 (by simp) q
    have z2 := fun q : Drift.Tide [] w1 [] => Drift.Tide.cell c2 (by simp) q
    have z3 := fun q : Drift.Tide [] w1 [] => Drift.Tide.cell c3 (by simp) q
    have z4 := fun q : Drift.Tide [] w1 [] => Drift.Tide.cell c4 (by simp) q
    have z5 := fun q : Drift.Tide [] w1 [] => Drift.Tide.cell c5 (by simp) q
    have z6 := fun q : Drift.Tide [] w1 [] => Drift.Tide.cell c6 (by simp) q
    have z7 := fun q : Drift.Tide [] w1 [] => Drift.Tide.cell c7 (by simp) q
    clear c0 c1 c2 c3 c4 c5 c6 c7
    refine Drift.wp_region_drift [] [(0,[]),(1,[]),(2,[]),(3,[]),(4,[]),(5,[]),(6,[]),(7,[]),(8,[]),(9,[]),(10,[]),(11,[]),(12,[]),(13,[]),(14,[]),(15,[]),(16,[]),(17,[]),(18,[]),(19,[]),(20,[]),(21,[]),(22,[]),(23,[]),(24,[]),(25,[]),(26,[]),(27,[]),(28,[]),(29,[]),(30,[]),(31,[])] [] [] (by kernel_rfl) (by kernel_rfl) (by simp) ?_
    simp only [Drift.pick, Drift.opsAt, List.getElem?_toArray, List.getElem?_cons_zero, List.getElem?_cons_succ, List.cons_append, List.nil_append, List.filterMap_nil]
    repeat (refine Drift.walk_step (fun K hK => ?_); go_simp; first | (refine hK _ ?_; clear hK K) | (apply Exists.intro; refine ⟨fun q => ?_, hK _ ?_⟩; (first | (go_at_call 57; exact (cS _).out)); clear hK K))
    refine Drift.walk_nil ?_
    intro w2 hb _
    replace HB := Lib.hid (bel2 HB.out hb)
    clear hb z0 z1 z2 z3 z4 z5 z6 z7 HX cS
    simp only [List.length_cons, List.length_nil, List.drop_succ_cons, List.drop_nil, Nat.zero_add, Nat.reduceAdd]
    go_wp2
    go_ret
    exact ⟨rfl, HB.out⟩
  by_cases n1 : 5 ≤ b ∧ b ≤ 65536
  case neg =>
    have cS := fun W => Lib.hid (Sized_yes b y fr fa bu le ke va W hs)
    clear h hs
    go_enter Try.func25, Try.ntmps25
    go_upto_region 1 with fail
    have hx := heap_alloc_new W (.cells #[.int .i64 b, .int .i64 y, .int .i64 fr, .int .i64 fa, .int .i64 bu, .int .i64 le, .int .i64 ke, .int .i64 va] 64)
    have hb1 : Below W.heap.size W (W.alloc (.cells #[.int .i64 b, .int .i64 y, .int .i64 fr, .int .i64 fa, .int .i64 bu, .int .i64 le, .int .i64 ke, .int .i64 va] 64)) := (Below.refl _ _).alloc (Nat.le_refl _) _
    obtain ⟨g, hg⟩ : ∃ g, g = W.heap.size := ⟨_, rfl⟩
    generalize W.alloc (.cells #[.int .i64 b, .int .i64 y, .int .i64 fr, .int .i64 fa, .int .i64 bu, .int .i64 le, .int .i64 ke, .int .i64 va] 64) = w1 at *
    rw [← hg] at hx ⊢
    have HX := Lib.hid hx
    have HB := Lib.hid hb1
    obtain ⟨c0, c1, c2, c3, c4, c5, c6, c7⟩ := box8 hx
    clear hx hb1 hg
    have z0 := fun q : Drift.Tide [] w1 [] => Drift.Tide.cell c0 (by simp) q
    have z1 := fun q : Drift.Tide [] w1 [] => Drift.Tide.cell c1 (by simp) q
    have z2 := fun q : Drift.Tide [] w1 [] => Drift.Tide.cell c2 (by simp) q
    have z3 := fun q : Drift.Tide [] w1 [] => Drift.Tide.cell c3 (by simp) q
    have z4 := fun q : Drift.Tide [] w1 [] => Drift.Tide.cell c4 (by simp) q
    have z5 := fun q : Drift.Tide [] w1 [] => Drift.Tide.cell c5 (by simp) q
    have z6 := fun q : Drift.Tide [] w1 [] => Drift.Tide.cell c6 (by simp) q
    have z7 := fun q : Drift.Tide [] w1 [] => Drift.Tide.cell c7 (by simp) q
    clear c0 c1 c2 c3 c4 c5 c6 c7
    refine Drift.wp_region_drift [] [(0,[]),(1,[]),(2,[]),(3,[]),(4,[]),(5,[]),(6,[]),(7,[]),(8,[]),(9,[]),(10,[]),(11,[]),(12,[]),(13,[]),(14,[]),(15,[]),(16,[]),(17,[]),(18,[]),(19,[]),(20,[]),(21,[]),(22,[]),(23,[]),(24,[]),(25,[]),(26,[]),(27,[]),(28,[]),(29,[]),(30,[]),(31,[])] [] [] (by kernel_rfl) (by kernel_rfl) (by simp) ?_
    simp only [Drift.pick, Drift.opsAt, List.getElem?_toArray, List.getElem?_cons_zero, List.getElem?_cons_succ, List.cons_append, List.nil_append, List.filterMap_nil]
    repeat (refine Drift.walk_step (fun K hK => ?_); go_simp; first | (refine hK _ ?_; clear hK K) | (apply Exists.intro; refine ⟨fun q => ?_, hK _ ?_⟩; (first | (go_at_call 57; exact (cS _).out) | (go_at_call 58; exact in_yes _ _ _ _ (by omega) (by omega)) | (go_at_call 58; exact in_no _ _ _ _ (by omega))); clear hK K))
    refine Drift.walk_nil ?_
    intro w2 hb _
    replace HB := Lib.hid (bel2 HB.out hb)
    clear hb z0 z1 z2 z3 z4 z5 z6 z7 HX cS
    simp only [List.length_cons, List.length_nil, List.drop_succ_cons, List.drop_nil, Nat.zero_add, Nat.reduceAdd]
    go_wp2
    go_ret
    exact ⟨rfl, HB.out⟩
  by_cases n2 : 8 ≤ fr ∧ fr ≤ 64
  case neg =>
    have cS := fun W => Lib.hid (Sized_yes b y fr fa bu le ke va W hs)
    clear h hs
    obtain ⟨n1a, n1b⟩ := n1
    go_enter Try.func25, Try.ntmps25
    go_upto_region 1 with fail
    have hx := heap_alloc_new W (.cells #[.int .i64 b, .int .i64 y, .int .i64 fr, .int .i64 fa, .int .i64 bu, .int .i64 le, .int .i64 ke, .int .i64 va] 64)
    have hb1 : Below W.heap.size W (W.alloc (.cells #[.int .i64 b, .int .i64 y, .int .i64 fr, .int .i64 fa, .int .i64 bu, .int .i64 le, .int .i64 ke, .int .i64 va] 64)) := (Below.refl _ _).alloc (Nat.le_refl _) _
    obtain ⟨g, hg⟩ : ∃ g, g = W.heap.size := ⟨_, rfl⟩
    generalize W.alloc (.cells #[.int .i64 b, .int .i64 y, .int .i64 fr, .int .i64 fa, .int .i64 bu, .int .i64 le, .int .i64 ke, .int .i64 va] 64) = w1 at *
    rw [← hg] at hx ⊢
    have HX := Lib.hid hx
    have HB := Lib.hid hb1
    obtain ⟨c0, c1, c2, c3, c4, c5, c6, c7⟩ := box8 hx
    clear hx hb1 hg
    have z0 := fun q : Drift.Tide [] w1 [] => Drift.Tide.cell c0 (by simp) q
    have z1 := fun q : Drift.Tide [] w1 [] => Drift.Tide.cell c1 (by simp) q
    have z2 := fun q : Drift.Tide [] w1 [] => Drift.Tide.cell c2 (by simp) q
    have z3 := fun q : Drift.Tide [] w1 [] => Drift.Tide.cell c3 (by simp) q
    have z4 := fun q : Drift.Tide [] w1 [] => Drift.Tide.cell c4 (by simp) q
    have z5 := fun q : Drift.Tide [] w1 [] => Drift.Tide.cell c5 (by simp) q
    have z6 := fun q : Drift.Tide [] w1 [] => Drift.Tide.cell c6 (by simp) q
    have z7 := fun q : Drift.Tide [] w1 [] => Drift.Tide.cell c7 (by simp) q
    clear c0 c1 c2 c3 c4 c5 c6 c7
    refine Drift.wp_region_drift [] [(0,[]),(1,[]),(2,[]),(3,[]),(4,[]),(5,[]),(6,[]),(7,[]),(8,[]),(9,[]),(10,[]),(11,[]),(12,[]),(13,[]),(14,[]),(15,[]),(16,[]),(17,[]),(18,[]),(19,[]),(20,[]),(21,[]),(22,[]),(23,[]),(24,[]),(25,[]),(26,[]),(27,[]),(28,[]),(29,[]),(30,[]),(31,[])] [] [] (by kernel_rfl) (by kernel_rfl) (by simp) ?_
    simp only [Drift.pick, Drift.opsAt, List.getElem?_toArray, List.getElem?_cons_zero, List.getElem?_cons_succ, List.cons_append, List.nil_append, List.filterMap_nil]
    repeat (refine Drift.walk_step (fun K hK => ?_); go_simp; first | (refine hK _ ?_; clear hK K) | (apply Exists.intro; refine ⟨fun q => ?_, hK _ ?_⟩; (first | (go_at_call 57; exact (cS _).out) | (go_at_call 58; exact in_yes _ _ _ _ (by omega) (by omega)) | (go_at_call 58; exact in_no _ _ _ _ (by omega))); clear hK K))
    refine Drift.walk_nil ?_
    intro w2 hb _
    replace HB := Lib.hid (bel2 HB.out hb)
    clear hb z0 z1 z2 z3 z4 z5 z6 z7 HX cS
    simp only [List.length_cons, List.length_nil, List.drop_succ_cons, List.drop_nil, Nat.zero_add, Nat.reduceAdd]
    go_wp2
    go_ret
    exact ⟨rfl, HB.out⟩
  by_cases n3 : 64 ≤ y ∧ y ≤ 65536
  case neg =>
    have cS := fun W => Lib.hid (Sized_yes b y fr fa bu le ke va W hs)
    clear h hs
    obtain ⟨n1a, n1b⟩ := n1
    obtain ⟨n2a, n2b⟩ := n2
    go_enter Try.func25, Try.ntmps25
    go_upto_region 1 with fail
    have hx := heap_alloc_new W (.cells #[.int .i64 b, .int .i64 y, .int .i64 fr, .int .i64 fa, .int .i64 bu, .int .i64 le, .int .i64 ke, .int .i64 va] 64)
    have hb1 : Below W.heap.size W (W.alloc (.cells #[.int .i64 b, .int .i64 y, .int .i64 fr, .int .i64 fa, .int .i64 bu, .int .i64 le, .int .i64 ke, .int .i64 va] 64)) := (Below.refl _ _).alloc (Nat.le_refl _) _
    obtain ⟨g, hg⟩ : ∃ g, g = W.heap.size := ⟨_, rfl⟩
    generalize W.alloc (.cells #[.int .i64 b, .int .i64 y, .int .i64 fr, .int .i64 fa, .int .i64 bu, .int .i64 le, .int .i64 ke, .int .i64 va] 64) = w1 at *
    rw [← hg] at hx ⊢
    have HX := Lib.hid hx
    have HB := Lib.hid hb1
    obtain ⟨c0, c1, c2, c3, c4, c5, c6, c7⟩ := box8 hx
    clear hx hb1 hg
    have z0 := fun q : Drift.Tide [] w1 [] => Drift.Tide.cell c0 (by simp) q
    have z1 := fun q : Drift.Tide [] w1 [] => Drift.Tide.cell c1 (by simp) q
    have z2 := fun q : Drift.Tide [] w1 [] => Drift.Tide.cell c2 (by simp) q
    have z3 := fun q : Drift.Tide [] w1 [] => Drift.Tide.cell c3 (by simp) q
    have z4 := fun q : Drift.Tide [] w1 [] => Drift.Tide.cell c4 (by simp) q
    have z5 := fun q : Drift.Tide [] w1 [] => Drift.Tide.cell c5 (by simp) q
    have z6 := fun q : Drift.Tide [] w1 [] => Drift.Tide.cell c6 (by simp) q
    have z7 := fun q : Drift.Tide [] w1 [] => Drift.Tide.cell c7 (by simp) q
    clear c0 c1 c2 c3 c4 c5 c6 c7
    refine Drift.wp_region_drift [] [(0,[]),(1,[]),(2,[]),(3,[]),(4,[]),(5,[]),(6,[]),(7,[]),(8,[]),(9,[]),(10,[]),(11,[]),(12,[]),(13,[]),(14,[]),(15,[]),(16,[]),(17,[]),(18,[]),(19,[]),(20,[]),(21,[]),(22,[]),(23,[]),(24,[]),(25,[]),(26,[]),(27,[]),(28,[]),(29,[]),(30,[]),(31,[])] [] [] (by kernel_rfl) (by kernel_rfl) (by simp) ?_
    simp only [Drift.pick, Drift.opsAt, List.getElem?_toArray, List.getElem?_cons_zero, List.getElem?_cons_succ, List.cons_append, List.nil_append, List.filterMap_nil]
    repeat (refine Drift.walk_step (fun K hK => ?_); go_simp; first | (refine hK _ ?_; clear hK K) | (apply Exists.intro; refine ⟨fun q => ?_, hK _ ?_⟩; (first | (go_at_call 57; exact (cS _).out) | (go_at_call 58; exact in_yes _ _ _ _ (by omega) (by omega)) | (go_at_call 58; exact in_no _ _ _ _ (by omega))); clear hK K))
    refine Drift.walk_nil ?_
    intro w2 hb _
    replace HB := Lib.hid (bel2 HB.out hb)
    clear hb z0 z1 z2 z3 z4 z5 z6 z7 HX cS
    simp only [List.length_cons, List.length_nil, List.drop_succ_cons, List.drop_nil, Nat.zero_add, Nat.reduceAdd]
    go_wp2
    go_ret
    exact ⟨rfl, HB.out⟩
  by_cases n4 : inn fa bu ke va ≤ y
  case neg =>
    have cS := fun W => Lib.hid (Sized_yes b y fr fa bu le ke va W hs)
    have cI := fun W => Lib.hid (RInner_yes b y fr fa bu le ke va W hs)
    have cO := fun W => Lib.hid (ROuter_yes b y fr fa bu le ke va W hs)
    clear hs
    generalize inn fa bu ke va = P at *
    generalize out le ke va = Q at *
    clear h
    obtain ⟨n1a, n1b⟩ := n1
    obtain ⟨n2a, n2b⟩ := n2
    obtain ⟨n3a, n3b⟩ := n3
    have n4 : y < P := by omega
    have n5 : decide (P ≤ y) = false := by simp; omega
    go_enter Try.func25, Try.ntmps25
    go_upto_region 1 with fail
    have hx := heap_alloc_new W (.cells #[.int .i64 b, .int .i64 y, .int .i64 fr, .int .i64 fa, .int .i64 bu, .int .i64 le, .int .i64 ke, .int .i64 va] 64)
    have hb1 : Below W.heap.size W (W.alloc (.cells #[.int .i64 b, .int .i64 y, .int .i64 fr, .int .i64 fa, .int .i64 bu, .int .i64 le, .int .i64 ke, .int .i64 va] 64)) := (Below.refl _ _).alloc (Nat.le_refl _) _
    obtain ⟨g, hg⟩ : ∃ g, g = W.heap.size := ⟨_, rfl⟩
    generalize W.alloc (.cells #[.int .i64 b, .int .i64 y, .int .i64 fr, .int .i64 fa, .int .i64 bu, .int .i64 le, .int .i64 ke, .int .i64 va] 64) = w1 at *
    rw [← hg] at hx ⊢
    have HX := Lib.hid hx
    have HB := Lib.hid hb1
    obtain ⟨c0, c1, c2, c3, c4, c5, c6, c7⟩ := box8 hx
    clear hx hb1 hg
    have z0 := fun q : Drift.Tide [] w1 [] => Drift.Tide.cell c0 (by simp) q
    have z1 := fun q : Drift.Tide [] w1 [] => Drift.Tide.cell c1 (by simp) q
    have z2 := fun q : Drift.Tide [] w1 [] => Drift.Tide.cell c2 (by simp) q
    have z3 := fun q : Drift.Tide [] w1 [] => Drift.Tide.cell c3 (by simp) q
    have z4 := fun q : Drift.Tide [] w1 [] => Drift.Tide.cell c4 (by simp) q
    have z5 := fun q : Drift.Tide [] w1 [] => Drift.Tide.cell c5 (by simp) q
    have z6 := fun q : Drift.Tide [] w1 [] => Drift.Tide.cell c6 (by simp) q
    have z7 := fun q : Drift.Tide [] w1 [] => Drift.Tide.cell c7 (by simp) q
    clear c0 c1 c2 c3 c4 c5 c6 c7
    refine Drift.wp_region_drift [] [(0,[]),(1,[]),(2,[]),(3,[]),(4,[]),(5,[]),(6,[]),(7,[]),(8,[]),(9,[]),(10,[]),(11,[]),(12,[]),(13,[]),(14,[]),(15,[]),(16,[]),(17,[]),(18,[]),(19,[]),(20,[]),(21,[]),(22,[]),(23,[]),(24,[]),(25,[]),(26,[]),(27,[]),(28,[]),(29,[]),(30,[]),(31,[])] [] [] (by kernel_rfl) (by kernel_rfl) (by simp) ?_
    simp only [Drift.pick, Drift.opsAt, List.getElem?_toArray, List.getElem?_cons_zero, List.getElem?_cons_succ, List.cons_append, List.nil_append, List.filterMap_nil]
    repeat (refine Drift.walk_step (fun K hK => ?_); go_simp; first | (refine hK _ ?_; clear hK K) | (apply Exists.intro; refine ⟨fun q => ?_, hK _ ?_⟩; (first | (go_at_call 57; exact (cS _).out) | (go_at_call 59; exact (cI _).out) | (go_at_call 60; exact (cO _).out) | (go_at_call 58; exact in_yes _ _ _ _ (by omega) (by omega)) | (go_at_call 58; exact in_no _ _ _ _ (by omega))); clear hK K))
    refine Drift.walk_nil ?_
    intro w2 hb _
    replace HB := Lib.hid (bel2 HB.out hb)
    clear hb z0 z1 z2 z3 z4 z5 z6 z7 HX cS cI cO
    simp only [List.length_cons, List.length_nil, List.drop_succ_cons, List.drop_nil, Nat.zero_add, Nat.reduceAdd]
    go_wp2
    go_ret
    exact ⟨rfl, HB.out⟩
  have n5 : ¬ out le ke va ≤ y := fun n5 => h ⟨hs, n1, n2, few_le.2 ⟨n3.1, n4, n5⟩, n3.2⟩
  clear h
  have cS := fun W => Lib.hid (Sized_yes b y fr fa bu le ke va W hs)
  have cI := fun W => Lib.hid (RInner_yes b y fr fa bu le ke va W hs)
  have cO := fun W => Lib.hid (ROuter_yes b y fr fa bu le ke va W hs)
  clear hs
  generalize inn fa bu ke va = P at *
  generalize out le ke va = Q at *
  obtain ⟨n1a, n1b⟩ := n1
  obtain ⟨n2a, n2b⟩ := n2
  obtain ⟨n3a, n3b⟩ := n3
  have n6 : y < Q := by omega
  have n7 : decide (Q ≤ y) = false := by simp; omega
  go_enter Try.func25, Try.ntmps25
  go_upto_region 1 with fail
  have hx := heap_alloc_new W (.cells #[.int .i64 b, .int .i64 y, .int .i64 fr, .int .i64 fa, .int .i64 bu, .int .i64 le, .int .i64 ke, .int .i64 va] 64)
  have hb1 : Below W.heap.size W (W.alloc (.cells #[.int .i64 b, .int .i64 y, .int .i64 fr, .int .i64 fa, .int .i64 bu, .int .i64 le, .int .i64 ke, .int .i64 va] 64)) := (Below.refl _ _).alloc (Nat.le_refl _) _
  obtain ⟨g, hg⟩ : ∃ g, g = W.heap.size := ⟨_, rfl⟩
  generalize W.alloc (.cells #[.int .i64 b, .int .i64 y, .int .i64 fr, .int .i64 fa, .int .i64 bu, .int .i64 le, .int .i64 ke, .int .i64 va] 64) = w1 at *
  rw [← hg] at hx ⊢
  have HX := Lib.hid hx
  have HB := Lib.hid hb1
  obtain ⟨c0, c1, c2, c3, c4, c5, c6, c7⟩ := box8 hx
  clear hx hb1 hg
  have z0 := fun q : Drift.Tide [] w1 [] => Drift.Tide.cell c0 (by simp) q
  have z1 := fun q : Drift.Tide [] w1 [] => Drift.Tide.cell c1 (by simp) q
  have z2 := fun q : Drift.Tide [] w1 [] => Drift.Tide.cell c2 (by simp) q
  have z3 := fun q : Drift.Tide [] w1 [] => Drift.Tide.cell c3 (by simp) q
  have z4 := fun q : Drift.Tide [] w1 [] => Drift.Tide.cell c4 (by simp) q
  have z5 := fun q : Drift.Tide [] w1 [] => Drift.Tide.cell c5 (by simp) q
  have z6 := fun q : Drift.Tide [] w1 [] => Drift.Tide.cell c6 (by simp) q
  have z7 := fun q : Drift.Tide [] w1 [] => Drift.Tide.cell c7 (by simp) q
  clear c0 c1 c2 c3 c4 c5 c6 c7
  refine Drift.wp_region_drift [] [(0,[]),(1,[]),(2,[]),(3,[]),(4,[]),(5,[]),(6,[]),(7,[]),(8,[]),(9,[]),(10,[]),(11,[]),(12,[]),(13,[]),(14,[]),(15,[]),(16,[]),(17,[]),(18,[]),(19,[]),(20,[]),(21,[]),(22,[]),(23,[]),(24,[]),(25,[]),(26,[]),(27,[]),(28,[]),(29,[]),(30,[]),(31,[])] [] [] (by kernel_rfl) (by kernel_rfl) (by simp) ?_
  simp only [Drift.pick, Drift.opsAt, List.getElem?_toArray, List.getElem?_cons_zero, List.getElem?_cons_succ, List.cons_append, List.nil_append, List.filterMap_nil]
  repeat (refine Drift.walk_step (fun K hK => ?_); go_simp; first | (refine hK _ ?_; clear hK K) | (apply Exists.intro; refine ⟨fun q => ?_, hK _ ?_⟩; (first | (go_at_call 57; exact (cS _).out) | (go_at_call 59; exact (cI _).out) | (go_at_call 60; exact (cO _).out) | (go_at_call 58; exact in_yes _ _ _ _ (by omega) (by omega)) | (go_at_call 58; exact in_no _ _ _ _ (by omega))); clear hK K))
  refine Drift.walk_nil ?_
  intro w2 hb _
  replace HB := Lib.hid (bel2 HB.out hb)
  clear hb z0 z1 z2 z3 z4 z5 z6 z7 HX cS cI cO
  simp only [List.length_cons, List.length_nil, List.drop_succ_cons, List.drop_nil, Nat.zero_add, Nat.reduceAdd]
  go_wp2
  go_ret
  exact ⟨rfl, HB.out⟩
theorem ex_shape : Shape 8 16 16 2 1 := by unfold Shape; omega
theorem ex_inn : inn 8 16 2 1 = 173 := by decide
theorem ex_out : out 16 2 1 = 104 := by decide
theorem ex_mov : mov 8 16 = 1 := by decide
theorem ex_few : few 8 16 16 2 1 = 173 := by decide
set_option maxRecDepth 100000 in
set_option maxHeartbeats 2000000 in
theorem awake_any (W : World) : Calls Try.prog 27 #[] W fun e w' => e = .returned (.bool true) ∧ Below W.heap.size W w' := by
  have cI : ∀ W, Hid (Calls Try.prog 61 #[.agg #[.int .i64 9, .int .i64 0, .int .i64 8, .int .i64 8, .int .i64 16, .int .i64 16, .int .i64 2, .int .i64 1]] W fun e w' => e = .returned (.int .i64 173) ∧ Below W.heap.size W w') := fun W => by
    have := Inner_yes 9 0 8 8 16 16 2 1 W ex_shape
    rw [ex_inn] at this
    exact this
  have cO : ∀ W, Hid (Calls Try.prog 62 #[.agg #[.int .i64 9, .int .i64 0, .int .i64 8, .int .i64 8, .int .i64 16, .int .i64 16, .int .i64 2, .int .i64 1]] W fun e w' => e = .returned (.int .i64 104) ∧ Below W.heap.size W w') := fun W => by
    have := Outer_yes 9 0 8 8 16 16 2 1 W ex_shape
    rw [ex_out] at this
    exact this
  have cM : ∀ W, Hid (Calls Try.prog 28 #[.agg #[.int .i64 9, .int .i64 0, .int .i64 8, .int .i64 8, .int .i64 16, .int .i64 16, .int .i64 2, .int .i64 1]] W fun e w' => e = .returned (.int .i64 1) ∧ Below W.heap.size W w') := fun W => by
    have := Move_yes 9 0 8 8 16 16 2 1 W ex_shape
    rw [ex_mov] at this
    exact this
  have cC : ∀ W, Hid (Calls Try.prog 24 #[.agg #[.int .i64 9, .int .i64 0, .int .i64 8, .int .i64 8, .int .i64 16, .int .i64 16, .int .i64 2, .int .i64 1]] W fun e w' => e = .returned (.int .i64 2) ∧ Below W.heap.size W w') := fun W => Check_no 9 0 8 8 16 16 2 1 W (fun h => by
    have := h.2.2.2.1
    rw [ex_few] at this
    omega)
  have cL : ∀ W, Hid (Calls Try.prog 56 #[.agg #[.int .i64 9, .int .i64 0, .int .i64 8, .int .i64 8, .int .i64 16, .int .i64 16, .int .i64 2, .int .i64 1]] W fun e w' => e = .returned (.agg #[.int .i64 9, .int .i64 173, .int .i64 8, .int .i64 8, .int .i64 16, .int .i64 16, .int .i64 2, .int .i64 1]) ∧ Below W.heap.size W w') := fun W => by
    have := Least_yes 9 0 8 8 16 16 2 1 W ex_shape
    rw [ex_few] at this
    exact this
  have cD : ∀ W, Hid (Calls Try.prog 24 #[.agg #[.int .i64 9, .int .i64 173, .int .i64 8, .int .i64 8, .int .i64 16, .int .i64 16, .int .i64 2, .int .i64 1]] W fun e w' => e = .returned (.int .i64 0) ∧ Below W.heap.size W w') := fun W => Check_yes 9 173 8 8 16 16 2 1 W ⟨ex_shape, by omega, by omega, by rw [ex_few]; omega⟩
  have hfd : ∀ w : World, (Instr.field 64 (.agg #[.int .i64 9, .int .i64 173, .int .i64 8, .int .i64 8, .int .i64 16, .int .i64 16, .int .i64 2, .int .i64 1]) 1).run Try.prog w = .ok (.int .i64 173) w := fun _ => by kernel_rfl
  go_enter Try.func27, Try.ntmps27
  go_upto_region 2 with fail
  have hx := heap_alloc_new W (.cells #[.int .i64 9, .int .i64 0, .int .i64 8, .int .i64 8, .int .i64 16, .int .i64 16, .int .i64 2, .int .i64 1] 64)
  have hb1 : Below W.heap.size W (W.alloc (.cells #[.int .i64 9, .int .i64 0, .int .i64 8, .int .i64 8, .int .i64 16, .int .i64 16, .int .i64 2, .int .i64 1] 64)) := (Below.refl _ _).alloc (Nat.le_refl _) _
  obtain ⟨g, hg⟩ : ∃ g, g = W.heap.size := ⟨_, rfl⟩
  generalize W.alloc (.cells #[.int .i64 9, .int .i64 0, .int .i64 8, .int .i64 8, .int .i64 16, .int .i64 16, .int .i64 2, .int .i64 1] 64) = w1 at *
  rw [← hg] at hx ⊢
  have HX := Lib.hid hx
  have HB := Lib.hid hb1
  obtain ⟨c0, c1, c2, c3, c4, c5, c6, c7⟩ := box8 hx
  clear hx hb1 hg
  go_wp2_with (first | (go_at_call 61; refine (cI _).out.mono ?_; rintro e w' ⟨rfl, hb⟩; replace HX := Lib.hid (kept8 HX.out hb); replace HB := Lib.hid (bel2 HB.out hb); clear hb; obtain ⟨c0, c1, c2, c3, c4, c5, c6, c7⟩ := box8 HX.out) | (go_at_call 62; refine (cO _).out.mono ?_; rintro e w' ⟨rfl, hb⟩; replace HX := Lib.hid (kept8 HX.out hb); replace HB := Lib.hid (bel2 HB.out hb); clear hb; obtain ⟨c0, c1, c2, c3, c4, c5, c6, c7⟩ := box8 HX.out) | (go_at_call 28; refine (cM _).out.mono ?_; rintro e w' ⟨rfl, hb⟩; replace HX := Lib.hid (kept8 HX.out hb); replace HB := Lib.hid (bel2 HB.out hb); clear hb; obtain ⟨c0, c1, c2, c3, c4, c5, c6, c7⟩ := box8 HX.out) | (go_at_call 56; refine (cL _).out.mono ?_; rintro e w' ⟨rfl, hb⟩; replace HX := Lib.hid (kept8 HX.out hb); replace HB := Lib.hid (bel2 HB.out hb); clear hb; obtain ⟨c0, c1, c2, c3, c4, c5, c6, c7⟩ := box8 HX.out) | (go_at_call 24; refine (cC _).out.mono ?_; rintro e w' ⟨rfl, hb⟩; clear cC; replace HX := Lib.hid (kept8 HX.out hb); replace HB := Lib.hid (bel2 HB.out hb); clear hb; obtain ⟨c0, c1, c2, c3, c4, c5, c6, c7⟩ := box8 HX.out) | (go_at_call 24; refine (cD _).out.mono ?_; rintro e w' ⟨rfl, hb⟩; replace HX := Lib.hid (kept8 HX.out hb); replace HB := Lib.hid (bel2 HB.out hb); clear hb; obtain ⟨c0, c1, c2, c3, c4, c5, c6, c7⟩ := box8 HX.out))
  go_ret
  exact ⟨rfl, HB.out⟩
theorem eq_cfg (b y fr fa bu le ke va : Int) (b' y' fr' fa' bu' le' ke' va' : Int) (w : World) : (binOp .eql 64 (.agg #[.int .i64 b, .int .i64 y, .int .i64 fr, .int .i64 fa, .int .i64 bu, .int .i64 le, .int .i64 ke, .int .i64 va]) (.agg #[.int .i64 b', .int .i64 y', .int .i64 fr', .int .i64 fa', .int .i64 bu', .int .i64 le', .int .i64 ke', .int .i64 va'])).run Try.prog w = .ok (.bool (b == b' && (y == y' && (fr == fr' && (fa == fa' && (bu == bu' && (le == le' && (ke == ke' && va == va')))))))) w := by
  by_cases h0 : b = b'
  case neg => simp [go_sem, h0]
  by_cases h1 : y = y'
  case neg => simp [go_sem, h0, h1]
  by_cases h2 : fr = fr'
  case neg => simp [go_sem, h0, h1, h2]
  by_cases h3 : fa = fa'
  case neg => simp [go_sem, h0, h1, h2, h3]
  by_cases h4 : bu = bu'
  case neg => simp [go_sem, h0, h1, h2, h3, h4]
  by_cases h5 : le = le'
  case neg => simp [go_sem, h0, h1, h2, h3, h4, h5]
  by_cases h6 : ke = ke'
  case neg => simp [go_sem, h0, h1, h2, h3, h4, h5, h6]
  by_cases h7 : va = va'
  case neg => simp [go_sem, h0, h1, h2, h3, h4, h5, h6, h7]
  simp [go_sem, h0, h1, h2, h3, h4, h5, h6, h7]
theorem eq_self (b y fr fa bu le ke va : Int) (w : World) : (binOp .eql 64 (.agg #[.int .i64 b, .int .i64 y, .int .i64 fr, .int .i64 fa, .int .i64 bu, .int .i64 le, .int .i64 ke, .int .i64 va]) (.agg #[.int .i64 b, .int .i64 y, .int .i64 fr, .int .i64 fa, .int .i64 bu, .int .i64 le, .int .i64 ke, .int .i64 va])).run Try.prog w = .ok (.bool true) w := by
  have := eq_cfg b y fr fa bu le ke va b y fr fa bu le ke va w
  simpa using this
theorem Same_of (b y fr fa bu le ke va : Int) (b' y' fr' fa' bu' le' ke' va' : Int) (B : Bool) (hB : ∀ w, (binOp .eql 64 (.agg #[.int .i64 b, .int .i64 y, .int .i64 fr, .int .i64 fa, .int .i64 bu, .int .i64 le, .int .i64 ke, .int .i64 va]) (.agg #[.int .i64 b', .int .i64 y', .int .i64 fr', .int .i64 fa', .int .i64 bu', .int .i64 le', .int .i64 ke', .int .i64 va'])).run Try.prog w = .ok (.bool B) w) (W : World) : Calls Try.prog 26 #[.agg #[.int .i64 b, .int .i64 y, .int .i64 fr, .int .i64 fa, .int .i64 bu, .int .i64 le, .int .i64 ke, .int .i64 va], .agg #[.int .i64 b', .int .i64 y', .int .i64 fr', .int .i64 fa', .int .i64 bu', .int .i64 le', .int .i64 ke', .int .i64 va']] W fun e w' => e = .returned (.bool B) ∧ Below W.heap.size W w' := by
  go_enter Try.func26, Try.ntmps26
  go_upto_region 1 with fail
  obtain ⟨hb1, hx, hy⟩ := two8 W (.cells #[.int .i64 b, .int .i64 y, .int .i64 fr, .int .i64 fa, .int .i64 bu, .int .i64 le, .int .i64 ke, .int .i64 va] 64) (.cells #[.int .i64 b', .int .i64 y', .int .i64 fr', .int .i64 fa', .int .i64 bu', .int .i64 le', .int .i64 ke', .int .i64 va'] 64)
  generalize (W.alloc (.cells #[.int .i64 b, .int .i64 y, .int .i64 fr, .int .i64 fa, .int .i64 bu, .int .i64 le, .int .i64 ke, .int .i64 va] 64)).alloc (.cells #[.int .i64 b', .int .i64 y', .int .i64 fr', .int .i64 fa', .int .i64 bu', .int .i64 le', .int .i64 ke', .int .i64 va'] 64) = w1 at *
  obtain ⟨g, hg⟩ : ∃ g, g = W.heap.size := ⟨_, rfl⟩
  rw [← hg] at hx hy ⊢
  have HB := Lib.hid hb1
  obtain ⟨c0, c1, c2, c3, c4, c5, c6, c7⟩ := box8 hx
  obtain ⟨d0, d1, d2, d3, d4, d5, d6, d7⟩ := box8 hy
  clear hx hy hb1 hg
  go_wp2_with fail
  go_ret
  exact ⟨rfl, HB.out⟩
set_option maxRecDepth 100000 in
set_option maxHeartbeats 2000000 in
theorem ConfChecks_yes (b y fr fa bu le ke va : Int) (b' y' fr' fa' bu' le' ke' va' : Int) (W : World) (h : Right b y fr fa bu le ke va) : Calls Try.prog 4 #[.agg #[.int .i64 b, .int .i64 y, .int .i64 fr, .int .i64 fa, .int .i64 bu, .int .i64 le, .int .i64 ke, .int .i64 va], .agg #[.int .i64 b', .int .i64 y', .int .i64 fr', .int .i64 fa', .int .i64 bu', .int .i64 le', .int .i64 ke', .int .i64 va']] W fun e w' => e = .returned (.bool true) ∧ Below W.heap.size W w' := by
  have cC := fun W => Lib.hid (Check_yes b y fr fa bu le ke va W h)
  have cR := fun W => Lib.hid (RRight_yes b y fr fa bu le ke va W h)
  have cA := fun W => Lib.hid (awake_any W)
  have hS := eq_self b y fr fa bu le ke va
  obtain ⟨Bv, hB⟩ : ∃ Bv, ∀ w, (binOp .eql 64 (.agg #[.int .i64 b, .int .i64 y, .int .i64 fr, .int .i64 fa, .int .i64 bu, .int .i64 le, .int .i64 ke, .int .i64 va]) (.agg #[.int .i64 b', .int .i64 y', .int .i64 fr', .int .i64 fa', .int .i64 bu', .int .i64 le', .int .i64 ke', .int .i64 va'])).run Try.prog w = .ok (.bool Bv) w := ⟨_, eq_cfg b y fr fa bu le ke va b' y' fr' fa' bu' le' ke' va'⟩
  have cS1 := fun W => Lib.hid (Same_of b y fr fa bu le ke va b' y' fr' fa' bu' le' ke' va' Bv hB W)
  have cS2 := fun W => Lib.hid (Same_of b y fr fa bu le ke va b y fr fa bu le ke va true hS W)
  clear h hS
  go_enter Try.func4, Try.ntmps4
  go_upto_region 1 with fail
  obtain ⟨hb1, hx, hy⟩ := two8 W (.cells #[.int .i64 b, .int .i64 y, .int .i64 fr, .int .i64 fa, .int .i64 bu, .int .i64 le, .int .i64 ke, .int .i64 va] 64) (.cells #[.int .i64 b', .int .i64 y', .int .i64 fr', .int .i64 fa', .int .i64 bu', .int .i64 le', .int .i64 ke', .int .i64 va'] 64)
  generalize (W.alloc (.cells #[.int .i64 b, .int .i64 y, .int .i64 fr, .int .i64 fa, .int .i64 bu, .int .i64 le, .int .i64 ke, .int .i64 va] 64)).alloc (.cells #[.int .i64 b', .int .i64 y', .int .i64 fr', .int .i64 fa', .int .i64 bu', .int .i64 le', .int .i64 ke', .int .i64 va'] 64) = w1 at *
  obtain ⟨g, hg⟩ : ∃ g, g = W.heap.size := ⟨_, rfl⟩
  rw [← hg] at hx hy ⊢
  have HB := Lib.hid hb1
  have HX := Lib.hid hx
  have HY := Lib.hid hy
  obtain ⟨c0, c1, c2, c3, c4, c5, c6, c7⟩ := box8 hx
  clear hx hy hb1 hg
  go_upto_region 2 with (go_at_call 24; refine (cC _).out.mono ?_; rintro e w2 ⟨rfl, hb⟩; replace HX := Lib.hid (kept8 HX.out hb); replace HY := Lib.hid (kept8 HY.out hb); replace HB := Lib.hid (bel2 HB.out hb); clear hb)
  clear c0 c1 c2 c3 c4 c5 c6 c7 cC
  obtain ⟨c0, c1, c2, c3, c4, c5, c6, c7⟩ := box8 HX.out
  obtain ⟨d0, d1, d2, d3, d4, d5, d6, d7⟩ := box8 HY.out
  have z0 := fun q : Drift.Tide [] w2 [] => Drift.Tide.cell c0 (by simp) q
  have z1 := fun q : Drift.Tide [] w2 [] => Drift.Tide.cell c1 (by simp) q
  have z2 := fun q : Drift.Tide [] w2 [] => Drift.Tide.cell c2 (by simp) q
  have z3 := fun q : Drift.Tide [] w2 [] => Drift.Tide.cell c3 (by simp) q
  have z4 := fun q : Drift.Tide [] w2 [] => Drift.Tide.cell c4 (by simp) q
  have z5 := fun q : Drift.Tide [] w2 [] => Drift.Tide.cell c5 (by simp) q
  have z6 := fun q : Drift.Tide [] w2 [] => Drift.Tide.cell c6 (by simp) q
  have z7 := fun q : Drift.Tide [] w2 [] => Drift.Tide.cell c7 (by simp) q
  have x0 := fun q : Drift.Tide [] w2 [] => Drift.Tide.cell d0 (by simp) q
  have x1 := fun q : Drift.Tide [] w2 [] => Drift.Tide.cell d1 (by simp) q
  have x2 := fun q : Drift.Tide [] w2 [] => Drift.Tide.cell d2 (by simp) q
  have x3 := fun q : Drift.Tide [] w2 [] => Drift.Tide.cell d3 (by simp) q
  have x4 := fun q : Drift.Tide [] w2 [] => Drift.Tide.cell d4 (by simp) q
  have x5 := fun q : Drift.Tide [] w2 [] => Drift.Tide.cell d5 (by simp) q
  have x6 := fun q : Drift.Tide [] w2 [] => Drift.Tide.cell d6 (by simp) q
  have x7 := fun q : Drift.Tide [] w2 [] => Drift.Tide.cell d7 (by simp) q
  clear c0 c1 c2 c3 c4 c5 c6 c7 d0 d1 d2 d3 d4 d5 d6 d7
  refine Drift.wp_region_drift [] [(0,[]),(1,[]),(2,[]),(3,[]),(4,[]),(5,[]),(6,[]),(7,[]),(8,[]),(9,[]),(10,[]),(11,[]),(12,[]),(13,[]),(14,[]),(15,[]),(16,[]),(17,[]),(18,[]),(19,[]),(20,[]),(21,[]),(22,[]),(23,[]),(24,[]),(25,[]),(26,[]),(27,[]),(28,[]),(29,[]),(30,[])] [] [] (by kernel_rfl) (by kernel_rfl) (by simp) ?_
  simp only [Drift.pick, Drift.opsAt, List.getElem?_toArray, List.getElem?_cons_zero, List.getElem?_cons_succ, List.cons_append, List.nil_append, List.filterMap_nil]
  repeat (refine Drift.walk_step (fun K hK => ?_); go_simp; first | (refine hK _ ?_; clear hK K) | (apply Exists.intro; refine ⟨fun q => ?_, hK _ ?_⟩; (first | (go_at_call 25; exact (cR _).out) | (go_at_call 26; exact (cS1 _).out) | (go_at_call 26; exact (cS2 _).out) | (go_at_call 27; exact (cA _).out)); clear hK K))
  refine Drift.walk_nil ?_
  intro w3 hb _
  replace HB := Lib.hid (bel2 HB.out hb)
  clear hb
  simp only [List.length_cons, List.length_nil, List.drop_succ_cons, List.drop_nil, Nat.zero_add, Nat.reduceAdd]
  go_wp2
  go_ret
  exact ⟨rfl, HB.out⟩
set_option maxRecDepth 100000 in
set_option maxHeartbeats 2000000 in
theorem ConfChecks_no (b y fr fa bu le ke va : Int) (b' y' fr' fa' bu' le' ke' va' : Int) (W : World) (h : ¬ Right b y fr fa bu le ke va) : Calls Try.prog 4 #[.agg #[.int .i64 b, .int .i64 y, .int .i64 fr, .int .i64 fa, .int .i64 bu, .int .i64 le, .int .i64 ke, .int .i64 va], .agg #[.int .i64 b', .int .i64 y', .int .i64 fr', .int .i64 fa', .int .i64 bu', .int .i64 le', .int .i64 ke', .int .i64 va']] W fun e w' => e = .returned (.bool true) ∧ Below W.heap.size W w' := by
  have cC := fun W => Lib.hid (Check_no b y fr fa bu le ke va W h)
  have cR := fun W => Lib.hid (RRight_no b y fr fa bu le ke va W h)
  have cA := fun W => Lib.hid (awake_any W)
  have hS := eq_self b y fr fa bu le ke va
  obtain ⟨Bv, hB⟩ : ∃ Bv, ∀ w, (binOp .eql 64 (.agg #[.int .i64 b, .int .i64 y, .int .i64 fr, .int .i64 fa, .int .i64 bu, .int .i64 le, .int .i64 ke, .int .i64 va]) (.agg #[.int .i64 b', .int .i64 y', .int .i64 fr', .int .i64 fa', .int .i64 bu', .int .i64 le', .int .i64 ke', .int .i64 va'])).run Try.prog w = .ok (.bool Bv) w := ⟨_, eq_cfg b y fr fa bu le ke va b' y' fr' fa' bu' le' ke' va'⟩
  have cS1 := fun W => Lib.hid (Same_of b y fr fa bu le ke va b' y' fr' fa' bu' le' ke' va' Bv hB W)
  have cS2 := fun W => Lib.hid (Same_of b y fr fa bu le ke va b y fr fa bu le ke va true hS W)
  clear h hS
  go_enter Try.func4, Try.ntmps4
  go_upto_region 1 with fail
  obtain ⟨hb1, hx, hy⟩ := two8 W (.cells #[.int .i64 b, .int .i64 y, .int .i64 fr, .int .i64 fa, .int .i64 bu, .int .i64 le, .int .i64 ke, .int .i64 va] 64) (.cells #[.int .i64 b', .int .i64 y', .int .i64 fr', .int .i64 fa', .int .i64 bu', .int .i64 le', .int .i64 ke', .int .i64 va'] 64)
  generalize (W.alloc (.cells #[.int .i64 b, .int .i64 y, .int .i64 fr, .int .i64 fa, .int .i64 bu, .int .i64 le, .int .i64 ke, .int .i64 va] 64)).alloc (.cells #[.int .i64 b', .int .i64 y', .int .i64 fr', .int .i64 fa', .int .i64 bu', .int .i64 le', .int .i64 ke', .int .i64 va'] 64) = w1 at *
  obtain ⟨g, hg⟩ : ∃ g, g = W.heap.size := ⟨_, rfl⟩
  rw [← hg] at hx hy ⊢
  have HB := Lib.hid hb1
  have HX := Lib.hid hx
  have HY := Lib.hid hy
  obtain ⟨c0, c1, c2, c3, c4, c5, c6, c7⟩ := box8 hx
  clear hx hy hb1 hg
  go_upto_region 2 with (go_at_call 24; refine (cC _).out.mono ?_; rintro e w2 ⟨rfl, hb⟩; replace HX := Lib.hid (kept8 HX.out hb); replace HY := Lib.hid (kept8 HY.out hb); replace HB := Lib.hid (bel2 HB.out hb); clear hb)
  clear c0 c1 c2 c3 c4 c5 c6 c7 cC
  obtain ⟨c0, c1, c2, c3, c4, c5, c6, c7⟩ := box8 HX.out
  obtain ⟨d0, d1, d2, d3, d4, d5, d6, d7⟩ := box8 HY.out
  have z0 := fun q : Drift.Tide [] w2 [] => Drift.Tide.cell c0 (by simp) q
  have z1 := fun q : Drift.Tide [] w2 [] => Drift.Tide.cell c1 (by simp) q
  have z2 := fun q : Drift.Tide [] w2 [] => Drift.Tide.cell c2 (by simp) q
  have z3 := fun q : Drift.Tide [] w2 [] => Drift.Tide.cell c3 (by simp) q
  have z4 := fun q : Drift.Tide [] w2 [] => Drift.Tide.cell c4 (by simp) q
  have z5 := fun q : Drift.Tide [] w2 [] => Drift.Tide.cell c5 (by simp) q
  have z6 := fun q : Drift.Tide [] w2 [] => Drift.Tide.cell c6 (by simp) q
  have z7 := fun q : Drift.Tide [] w2 [] => Drift.Tide.cell c7 (by simp) q
  have x0 := fun q : Drift.Tide [] w2 [] => Drift.Tide.cell d0 (by simp) q
  have x1 := fun q : Drift.Tide [] w2 [] => Drift.Tide.cell d1 (by simp) q
  have x2 := fun q : Drift.Tide [] w2 [] => Drift.Tide.cell d2 (by simp) q
  have x3 := fun q : Drift.Tide [] w2 [] => Drift.Tide.cell d3 (by simp) q
  have x4 := fun q : Drift.Tide [] w2 [] => Drift.Tide.cell d4 (by simp) q
  have x5 := fun q : Drift.Tide [] w2 [] => Drift.Tide.cell d5 (by simp) q
  have x6 := fun q : Drift.Tide [] w2 [] => Drift.Tide.cell d6 (by simp) q
  have x7 := fun q : Drift.Tide [] w2 [] => Drift.Tide.cell d7 (by simp) q
  clear c0 c1 c2 c3 c4 c5 c6 c7 d0 d1 d2 d3 d4 d5 d6 d7
  refine Drift.wp_region_drift [] [(0,[]),(1,[]),(2,[]),(3,[]),(4,[]),(5,[]),(6,[]),(7,[]),(8,[]),(9,[]),(10,[]),(11,[]),(12,[]),(13,[]),(14,[]),(15,[]),(16,[]),(17,[]),(18,[]),(19,[]),(20,[]),(21,[]),(22,[]),(23,[]),(24,[]),(25,[]),(26,[]),(27,[]),(28,[]),(29,[]),(30,[])] [] [] (by kernel_rfl) (by kernel_rfl) (by simp) ?_
  simp only [Drift.pick, Drift.opsAt, List.getElem?_toArray, List.getElem?_cons_zero, List.getElem?_cons_succ, List.cons_append, List.nil_append, List.filterMap_nil]
  repeat (refine Drift.walk_step (fun K hK => ?_); go_simp; first | (refine hK _ ?_; clear hK K) | (apply Exists.intro; refine ⟨fun q => ?_, hK _ ?_⟩; (first | (go_at_call 25; exact (cR _).out) | (go_at_call 26; exact (cS1 _).out) | (go_at_call 26; exact (cS2 _).out) | (go_at_call 27; exact (cA _).out)); clear hK K))
  refine Drift.walk_nil ?_
  intro w3 hb _
  replace HB := Lib.hid (bel2 HB.out hb)
  clear hb
  simp only [List.length_cons, List.length_nil, List.drop_succ_cons, List.drop_nil, Nat.zero_add, Nat.reduceAdd]
  go_wp2
  go_ret
  exact ⟨rfl, HB.out⟩
theorem ConfChecks_walk (b y fr fa bu le ke va : Int) (b' y' fr' fa' bu' le' ke' va' : Int) (W : World) : Calls Try.prog 4 #[.agg #[.int .i64 b, .int .i64 y, .int .i64 fr, .int .i64 fa, .int .i64 bu, .int .i64 le, .int .i64 ke, .int .i64 va], .agg #[.int .i64 b', .int .i64 y', .int .i64 fr', .int .i64 fa', .int .i64 bu', .int .i64 le', .int .i64 ke', .int .i64 va']] W fun e w' => e = .returned (.bool true) ∧ Below W.heap.size W w' := by
  by_cases h : Right b y fr fa bu le ke va
  · exact ConfChecks_yes b y fr fa bu le ke va b' y' fr' fa' bu' le' ke' va' W h
  · exact ConfChecks_no b y fr fa bu le ke va b' y' fr' fa' bu' le' ke' va' W h
set_option maxRecDepth 100000 in
set_option maxHeartbeats 2000000 in
theorem ConfMoves_no (b y fr fa bu le ke va : Int) (W : World) (h : ¬ Right b y fr fa bu le ke va) : Calls Try.prog 5 #[.agg #[.int .i64 b, .int .i64 y, .int .i64 fr, .int .i64 fa, .int .i64 bu, .int .i64 le, .int .i64 ke, .int .i64 va]] W fun e w' => e = .returned (.bool true) ∧ Below W.heap.size W w' := by
  have cA := fun W => Lib.hid (awake_any W)
  have cC := fun W => Lib.hid (Check_no b y fr fa bu le ke va W h)
  have cR := fun W => Lib.hid (RRight_no b y fr fa bu le ke va W h)
  clear h
  go_enter Try.func5, Try.ntmps5
  go_upto_region 1 with fail
  have hx := heap_alloc_new W (.cells #[.int .i64 b, .int .i64 y, .int .i64 fr, .int .i64 fa, .int .i64 bu, .int .i64 le, .int .i64 ke, .int .i64 va] 64)
  have hb1 : Below W.heap.size W (W.alloc (.cells #[.int .i64 b, .int .i64 y, .int .i64 fr, .int .i64 fa, .int .i64 bu, .int .i64 le, .int .i64 ke, .int .i64 va] 64)) := (Below.refl _ _).alloc (Nat.le_refl _) _
  obtain ⟨g, hg⟩ : ∃ g, g = W.heap.size := ⟨_, rfl⟩
  generalize W.alloc (.cells #[.int .i64 b, .int .i64 y, .int .i64 fr, .int .i64 fa, .int .i64 bu, .int .i64 le, .int .i64 ke, .int .i64 va] 64) = w1 at *
  rw [← hg] at hx ⊢
  have HX := Lib.hid hx
  have HB := Lib.hid hb1
  obtain ⟨c0, c1, c2, c3, c4, c5, c6, c7⟩ := box8 hx
  clear hx hb1 hg
  go_wp2_with (first | (go_at_call 24; refine (cC _).out.mono ?_; rintro e w' ⟨rfl, hb⟩; clear cC; replace HX := Lib.hid (kept8 HX.out hb); replace HB := Lib.hid (bel2 HB.out hb); clear hb; obtain ⟨c0, c1, c2, c3, c4, c5, c6, c7⟩ := box8 HX.out) | (go_at_call 25; refine (cR _).out.mono ?_; rintro e w' ⟨rfl, hb⟩; replace HX := Lib.hid (kept8 HX.out hb); replace HB := Lib.hid (bel2 HB.out hb); clear hb; obtain ⟨c0, c1, c2, c3, c4, c5, c6, c7⟩ := box8 HX.out) | (go_at_call 27; refine (cA _).out.mono ?_; rintro e w' ⟨rfl, hb⟩; replace HX := Lib.hid (kept8 HX.out hb); replace HB := Lib.hid (bel2 HB.out hb); clear hb; obtain ⟨c0, c1, c2, c3, c4, c5, c6, c7⟩ := box8 HX.out))
  go_ret
  exact ⟨rfl, HB.out⟩
set_option maxRecDepth 100000 in
set_option maxHeartbeats 2000000 in
theorem ConfMoves_yes (b y fr fa bu le ke va : Int) (W : World) (h : Right b y fr fa bu le ke va) : Calls Try.prog 5 #[.agg #[.int .i64 b, .int .i64 y, .int .i64 fr, .int .i64 fa, .int .i64 bu, .int .i64 le, .int .i64 ke, .int .i64 va]] W fun e w' => e = .returned (.bool true) ∧ Below W.heap.size W w' := by
  have cA := fun W => Lib.hid (awake_any W)
  have cC := fun W => Lib.hid (Check_yes b y fr fa bu le ke va W h)
  have cM := fun W => Lib.hid (Move_yes b y fr fa bu le ke va W h.1)
  obtain ⟨⟨⟨h1, h1'⟩, ⟨h2, h2'⟩, -⟩, -⟩ := h
  obtain ⟨m0, m1⟩ := mov_in h1 h1' h2 h2'
  obtain ⟨e1, e2⟩ := mov_le h1 h2
  generalize mov fa bu = M at *
  have e3 : 2 * fa * M = 2 * (fa * M) := Int.mul_assoc _ _ _
  obtain ⟨F, hF⟩ : ∃ F, F = fa * M := ⟨_, rfl⟩
  rw [← hF] at e3
  rw [e3] at e1 e2
  have hwF : IntKind.i64.wrap (fa * M) = F := by rw [← hF, IntKind.wrap_i64]; omega
  have hwE : IntKind.i64.wrap (2 * fa * M) = 2 * F := by rw [e3, IntKind.wrap_i64]; omega
  clear e3 hF
  go_enter Try.func5, Try.ntmps5
  go_upto_region 1 with fail
  have hx := heap_alloc_new W (.cells #[.int .i64 b, .int .i64 y, .int .i64 fr, .int .i64 fa, .int .i64 bu, .int .i64 le, .int .i64 ke, .int .i64 va] 64)
  have hb1 : Below W.heap.size W (W.alloc (.cells #[.int .i64 b, .int .i64 y, .int .i64 fr, .int .i64 fa, .int .i64 bu, .int .i64 le, .int .i64 ke, .int .i64 va] 64)) := (Below.refl _ _).alloc (Nat.le_refl _) _
  obtain ⟨g, hg⟩ : ∃ g, g = W.heap.size := ⟨_, rfl⟩
  generalize W.alloc (.cells #[.int .i64 b, .int .i64 y, .int .i64 fr, .int .i64 fa, .int .i64 bu, .int .i64 le, .int .i64 ke, .int .i64 va] 64) = w1 at *
  rw [← hg] at hx ⊢
  have HX := Lib.hid hx
  have HB := Lib.hid hb1
  obtain ⟨c0, c1, c2, c3, c4, c5, c6, c7⟩ := box8 hx
  clear hx hb1 hg
  go_wp2_with (first | (go_at_call 24; refine (cC _).out.mono ?_; rintro e w' ⟨rfl, hb⟩; clear cC; replace HX := Lib.hid (kept8 HX.out hb); replace HB := Lib.hid (bel2 HB.out hb); clear hb; obtain ⟨c0, c1, c2, c3, c4, c5, c6, c7⟩ := box8 HX.out) | (go_at_call 28; refine (cM _).out.mono ?_; rintro e w' ⟨rfl, hb⟩; replace HX := Lib.hid (kept8 HX.out hb); replace HB := Lib.hid (bel2 HB.out hb); clear hb; obtain ⟨c0, c1, c2, c3, c4, c5, c6, c7⟩ := box8 HX.out) | (go_at_call 27; refine (cA _).out.mono ?_; rintro e w' ⟨rfl, hb⟩; replace HX := Lib.hid (kept8 HX.out hb); replace HB := Lib.hid (bel2 HB.out hb); clear hb; obtain ⟨c0, c1, c2, c3, c4, c5, c6, c7⟩ := box8 HX.out))
  go_ret
  exact ⟨rfl, HB.out⟩
theorem array8 {α : Type} {cs : Array α} (h : cs.size = 8) : ∃ c0 c1 c2 c3 c4 c5 c6 c7, cs = #[c0, c1, c2, c3, c4, c5, c6, c7] := by
  obtain ⟨l⟩ := cs
  match l, h with
  | [c0, c1, c2, c3, c4, c5, c6, c7], _ => exact ⟨c0, c1, c2, c3, c4, c5, c6, c7, rfl⟩
theorem cfg_one : oneCellFields Try.prog (Try.prog.fieldsOf 64) = true := by kernel_rfl
theorem cfg_at (j : Nat) (hj : j < 8) : ∃ f, (Try.prog.fieldsOf 64)[j]? = some f ∧ f.type = 3 := by
  have h : ∀ j : Fin 8, ((Try.prog.fieldsOf 64)[j.val]?.map fun f => f.type) = some 3 := by decide +kernel
  have := h ⟨j, hj⟩
  rw [Option.map_eq_some_iff] at this
  exact this
set_option maxRecDepth 100000 in
theorem open_cfg {H : Type} {enc : TypeId × Value → H} {W : World} {v : Value} {d : DataW H} {p : List MemPlace} {r : Reach} {b0 : Nat} (hv : Value.okWide Try.prog W r b0 64 v) (h : DataW.Trod enc Try.prog W 0 (fun _ => true) true 64 v d p) :
    ∃ b y fr fa bu le ke va : Int, v = .agg #[.int .i64 b, .int .i64 y, .int .i64 fr, .int .i64 fa, .int .i64 bu, .int .i64 le, .int .i64 ke, .int .i64 va] := by
  have hu : Try.prog.underlying 64 = some (.struct (Try.prog.fieldsOf 64)) := by kernel_rfl
  obtain ⟨cs, rfl, hsz⟩ := okWide_struct hu hv
  have h8 : Try.prog.cellsOf 64 = 8 := by kernel_rfl
  rw [h8] at hsz
  obtain ⟨fuel, hf⟩ := h
  obtain ⟨ys, n', _, _, hlen, hyl, hfl⟩ := DataW.trod_struct hu hf
  have each : ∀ (j : Nat) (u : Value), cs[j]? = some u → ∃ z, u = .int .i64 z := fun j u hj => by
    have hj8 : j < 8 := by
      rw [← hsz]
      exact (Array.getElem?_eq_some_iff.1 hj).1
    obtain ⟨f, hfj, hft⟩ := cfg_at j hj8
    obtain ⟨ho, hk⟩ := hone_of cfg_one j f hfj
    have h1 := hfl j f hfj
    rw [ho, hk, hft] at h1
    have hu1 : ((Value.agg cs).cells.toList.drop j).take 1 = [u] := by
      simp only [Value.cells]
      have hl : cs.toList[j]? = some u := by simpa using hj
      rw [List.getElem?_eq_some_iff] at hl
      obtain ⟨h2, h3⟩ := hl
      rw [List.drop_eq_getElem_cons h2, h3]
      rfl
    rw [hu1] at h1
    have hj' : j < ys.length := by
      rw [hyl]
      exact (Array.getElem?_eq_some_iff.1 hfj).1
    rw [List.getElem?_eq_getElem hj'] at h1
    obtain ⟨z, hz, _, _⟩ := DataW.trod_int Try.underlying3 h1
    exact ⟨z, by simpa using hz⟩
  obtain ⟨c0, c1, c2, c3, c4, c5, c6, c7, rfl⟩ := array8 hsz
  obtain ⟨z0, rfl⟩ := each 0 c0 rfl
  obtain ⟨z1, rfl⟩ := each 1 c1 rfl
  obtain ⟨z2, rfl⟩ := each 2 c2 rfl
  obtain ⟨z3, rfl⟩ := each 3 c3 rfl
  obtain ⟨z4, rfl⟩ := each 4 c4 rfl
  obtain ⟨z5, rfl⟩ := each 5 c5 rfl
  obtain ⟨z6, rfl⟩ := each 6 c6 rfl
  obtain ⟨z7, rfl⟩ := each 7 c7 rfl
  exact ⟨z0, z1, z2, z3, z4, z5, z6, z7, rfl⟩
theorem ConfMoves_walk (b y fr fa bu le ke va : Int) (W : World) : Calls Try.prog 5 #[.agg #[.int .i64 b, .int .i64 y, .int .i64 fr, .int .i64 fa, .int .i64 bu, .int .i64 le, .int .i64 ke, .int .i64 va]] W fun e w' => e = .returned (.bool true) ∧ Below W.heap.size W w' := by
  by_cases h : Right b y fr fa bu le ke va
  · exact ConfMoves_yes b y fr fa bu le ke va W h
  · exact ConfMoves_no b y fr fa bu le ke va W h
end Cf
end Go.Proofs.Ytjnbdmimflhhiaa
