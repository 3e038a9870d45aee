/-
  Layer conf: Check, Same, and the document's own. Written by scripts/conf3.py.
-/
import Derived.Test.YteefkhgmcknbaaaConfD2
import Derived.Test.YteefkhgmcknbaaaConf2
namespace Go.Proofs.Yteefkhgmcknbaaa
open Go.RowKit
namespace Cf

set_option maxRecDepth 100000 in
set_option maxHeartbeats 2000000 in
theorem Check_yes (b y fr fa bu le ke va : Int) (W : World) (h : Right b y fr fa bu le ke va) : Calls Try.prog 18 #[.agg #[.int .i64 b, .int .i64 y, .int .i64 fr, .int .i64 fa, .int .i64 bu, .int .i64 le, .int .i64 ke, .int .i64 va]] W fun e w' => e = .returned (.int .i64 0) ∧ Below W.heap.size W w' := by
  obtain ⟨h, ⟨a1, a2⟩, ⟨a3, a4⟩, a5, a6⟩ := h
  have cS := fun W => Lib.hid (isShaped_yes b y fr fa bu le ke va W h)
  have cL := fun W => Lib.hid (Least_yes b y fr fa bu le ke va W h)
  clear h
  generalize few fa bu le ke va = fw at *
  have hfd : ∀ w : World, (Instr.field 23 (.agg #[.int .i64 b, .int .i64 fw, .int .i64 fr, .int .i64 fa, .int .i64 bu, .int .i64 le, .int .i64 ke, .int .i64 va]) 1).run Try.prog w = .ok (.int .i64 fw) w := fun _ => by kernel_rfl
  go_enter Try.func18, Try.ntmps18
  go_upto_region 1 with fail
  have hx := heap_alloc_new W (.cells #[.int .i64 b, .int .i64 y, .int .i64 fr, .int .i64 fa, .int .i64 bu, .int .i64 le, .int .i64 ke, .int .i64 va] 23)
  have hb1 : Below W.heap.size W (W.alloc (.cells #[.int .i64 b, .int .i64 y, .int .i64 fr, .int .i64 fa, .int .i64 bu, .int .i64 le, .int .i64 ke, .int .i64 va] 23)) := (Below.refl _ _).alloc (Nat.le_refl _) _
  obtain ⟨g, hg⟩ : ∃ g, g = W.heap.size := ⟨_, rfl⟩
  generalize W.alloc (.cells #[.int .i64 b, .int .i64 y, .int .i64 fr, .int .i64 fa, .int .i64 bu, .int .i64 le, .int .i64 ke, .int .i64 va] 23) = w1 at *
  rw [← hg] at hx ⊢
  have HX := Lib.hid hx
  have HB := Lib.hid hb1
  obtain ⟨c0, c1, c2, c3, c4, c5, c6, c7⟩ := box8 hx
  clear hx hb1 hg
  have z0 := fun q : Drift.Tide [] w1 [] => Drift.Tide.cell c0 (by simp) q
  have z1 := fun q : Drift.Tide [] w1 [] => Drift.Tide.cell c1 (by simp) q
  have z2 := fun q : Drift.Tide [] w1 [] => Drift.Tide.cell c2 (by simp) q
  have z3 := fun q : Drift.Tide [] w1 [] => Drift.Tide.cell c3 (by simp) q
  have z4 := fun q : Drift.Tide [] w1 [] => Drift.Tide.cell c4 (by simp) q
  have z5 := fun q : Drift.Tide [] w1 [] => Drift.Tide.cell c5 (by simp) q
  have z6 := fun q : Drift.Tide [] w1 [] => Drift.Tide.cell c6 (by simp) q
  have z7 := fun q : Drift.Tide [] w1 [] => Drift.Tide.cell c7 (by simp) q
  clear c0 c1 c2 c3 c4 c5 c6 c7
  refine Drift.wp_region_drift [] [(0,[]),(1,[]),(2,[]),(3,[]),(4,[]),(5,[]),(6,[]),(7,[]),(8,[]),(9,[]),(10,[]),(11,[]),(12,[]),(13,[]),(14,[]),(15,[]),(16,[]),(17,[]),(18,[]),(19,[])] [] [] (by kernel_rfl) (by kernel_rfl) (by simp) ?_
  simp only [Drift.pick, Drift.opsAt, List.getElem?_toArray, List.getElem?_cons_zero, List.getElem?_cons_succ, List.cons_append, List.nil_append, List.filterMap_nil]
  repeat (refine Drift.walk_step (fun K hK => ?_); go_simp; first | (refine hK _ ?_; clear hK K) | (apply Exists.intro; refine ⟨fun q => ?_, hK _ ?_⟩; (first | (go_at_call 35; exact (cS _).out) | (go_at_call 37; exact (cL _).out) | (go_at_call 36; exact between_yes _ _ _ _ (by omega) (by omega)) | (go_at_call 36; exact between_no _ _ _ _ (by omega))); clear hK K))
  refine Drift.walk_nil ?_
  intro w2 hb _
  replace HB := Lib.hid (bel2 HB.out hb)
  clear hb z0 z1 z2 z3 z4 z5 z6 z7 HX cS cL hfd
  simp only [List.length_cons, List.length_nil, List.drop_succ_cons, List.drop_nil, Nat.zero_add, Nat.reduceAdd]
  go_wp2
  go_ret
  exact ⟨rfl, HB.out⟩
set_option maxRecDepth 100000 in
set_option maxHeartbeats 2000000 in
theorem Check_no (b y fr fa bu le ke va : Int) (W : World) (h : ¬ Right b y fr fa bu le ke va) : Calls Try.prog 18 #[.agg #[.int .i64 b, .int .i64 y, .int .i64 fr, .int .i64 fa, .int .i64 bu, .int .i64 le, .int .i64 ke, .int .i64 va]] W fun e w' => e = .returned (.int .i64 2) ∧ Below W.heap.size W w' := by
  by_cases hs : Shape fa bu le ke va
  case neg =>
    have cS := fun W => Lib.hid (isShaped_no b y fr fa bu le ke va W hs)
    clear h hs
    go_enter Try.func18, Try.ntmps18
    go_upto_region 1 with fail
    have hx := heap_alloc_new W (.cells #[.int .i64 b, .int .i64 y, .int .i64 fr, .int .i64 fa, .int .i64 bu, .int .i64 le, .int .i64 ke, .int .i64 va] 23)
    have hb1 : Below W.heap.size W (W.alloc (.cells #[.int .i64 b, .int .i64 y, .int .i64 fr, .int .i64 fa, .int .i64 bu, .int .i64 le, .int .i64 ke, .int .i64 va] 23)) := (Below.refl _ _).alloc (Nat.le_refl _) _
    obtain ⟨g, hg⟩ : ∃ g, g = W.heap.size := ⟨_, rfl⟩
    generalize W.alloc (.cells #[.int .i64 b, .int .i64 y, .int .i64 fr, .int .i64 fa, .int .i64 bu, .int .i64 le, .int .i64 ke, .int .i64 va] 23) = w1 at *
    rw [← hg] at hx ⊢
    have HX := Lib.hid hx
    have HB := Lib.hid hb1
    obtain ⟨c0, c1, c2, c3, c4, c5, c6, c7⟩ := box8 hx
    clear hx hb1 hg
    have z0 := fun q : Drift.Tide [] w1 [] => Drift.Tide.cell c0 (by simp) q
    have z1 := fun q : Drift.Tide [] w1 [] => Drift.Tide.cell c1 (by simp) q
    have z2 := fun q : Drift.Tide [] w1 [] => Drift.Tide.cell c2 (by simp) q
    have z3 := fun q : Drift.Tide [] w1 [] => Drift.Tide.cell c3 (by simp) q
    have z4 := fun q : Drift.Tide [] w1 [] => Drift.Tide.cell c4 (by simp) q
    have z5 := fun q : Drift.Tide [] w1 [] => Drift.Tide.cell c5 (by simp) q
    have z6 := fun q : Drift.Tide [] w1 [] => Drift.Tide.cell c6 (by simp) q
    have z7 := fun q : Drift.Tide [] w1 [] => Drift.Tide.cell c7 (by simp) q
    clear c0 c1 c2 c3 c4 c5 c6 c7
    refine Drift.wp_region_drift [] [(0,[]),(1,[]),(2,[]),(3,[]),(4,[]),(5,[]),(6,[]),(7,[]),(8,[]),(9,[]),(10,[]),(11,[]),(12,[]),(13,[]),(14,[]),(15,[]),(16,[]),(17,[]),(18,[]),(19,[])] [] [] (by kernel_rfl) (by kernel_rfl) (by simp) ?_
    simp only [Drift.pick, Drift.opsAt, List.getElem?_toArray, List.getElem?_cons_zero, List.getElem?_cons_succ, List.cons_append, List.nil_append, List.filterMap_nil]
    repeat (refine Drift.walk_step (fun K hK => ?_); go_simp; first | (refine hK _ ?_; clear hK K) | (apply Exists.intro; refine ⟨fun q => ?_, hK _ ?_⟩; (first | (go_at_call 35; exact (cS _).out)); clear hK K))
    refine Drift.walk_nil ?_
    intro w2 hb _
    replace HB := Lib.hid (bel2 HB.out hb)
    clear hb z0 z1 z2 z3 z4 z5 z6 z7 HX cS
    simp only [List.length_cons, List.length_nil, List.drop_succ_cons, List.drop_nil, Nat.zero_add, Nat.reduceAdd]
    go_wp2
    go_ret
    exact ⟨rfl, HB.out⟩
  by_cases n1 : 5 ≤ b ∧ b ≤ 65536
  case neg =>
    have cS := fun W => Lib.hid (isShaped_yes b y fr fa bu le ke va W hs)
    clear h hs
    go_enter Try.func18, Try.ntmps18
    go_upto_region 1 with fail
    have hx := heap_alloc_new W (.cells #[.int .i64 b, .int .i64 y, .int .i64 fr, .int .i64 fa, .int .i64 bu, .int .i64 le, .int .i64 ke, .int .i64 va] 23)
    have hb1 : Below W.heap.size W (W.alloc (.cells #[.int .i64 b, .int .i64 y, .int .i64 fr, .int .i64 fa, .int .i64 bu, .int .i64 le, .int .i64 ke, .int .i64 va] 23)) := (Below.refl _ _).alloc (Nat.le_refl _) _
    obtain ⟨g, hg⟩ : ∃ g, g = W.heap.size := ⟨_, rfl⟩
    generalize W.alloc (.cells #[.int .i64 b, .int .i64 y, .int .i64 fr, .int .i64 fa, .int .i64 bu, .int .i64 le, .int .i64 ke, .int .i64 va] 23) = w1 at *
    rw [← hg] at hx ⊢
    have HX := Lib.hid hx
    have HB := Lib.hid hb1
    obtain ⟨c0, c1, c2, c3, c4, c5, c6, c7⟩ := box8 hx
    clear hx hb1 hg
    have z0 := fun q : Drift.Tide [] w1 [] => Drift.Tide.cell c0 (by simp) q
    have z1 := fun q : Drift.Tide [] w1 [] => Drift.Tide.cell c1 (by simp) q
    have z2 := fun q : Drift.Tide [] w1 [] => Drift.Tide.cell c2 (by simp) q
    have z3 := fun q : Drift.Tide [] w1 [] => Drift.Tide.cell c3 (by simp) q
    have z4 := fun q : Drift.Tide [] w1 [] => Drift.Tide.cell c4 (by simp) q
    have z5 := fun q : Drift.Tide [] w1 [] => Drift.Tide.cell c5 (by simp) q
    have z6 := fun q : Drift.Tide [] w1 [] => Drift.Tide.cell c6 (by simp) q
    have z7 := fun q : Drift.Tide [] w1 [] => Drift.Tide.cell c7 (by simp) q
    clear c0 c1 c2 c3 c4 c5 c6 c7
    refine Drift.wp_region_drift [] [(0,[]),(1,[]),(2,[]),(3,[]),(4,[]),(5,[]),(6,[]),(7,[]),(8,[]),(9,[]),(10,[]),(11,[]),(12,[]),(13,[]),(14,[]),(15,[]),(16,[]),(17,[]),(18,[]),(19,[])] [] [] (by kernel_rfl) (by kernel_rfl) (by simp) ?_
    simp only [Drift.pick, Drift.opsAt, List.getElem?_toArray, List.getElem?_cons_zero, List.getElem?_cons_succ, List.cons_append, List.nil_append, List.filterMap_nil]
    repeat (refine Drift.walk_step (fun K hK => ?_); go_simp; first | (refine hK _ ?_; clear hK K) | (apply Exists.intro; refine ⟨fun q => ?_, hK _ ?_⟩; (first | (go_at_call 35; exact (cS _).out) | (go_at_call 36; exact between_yes _ _ _ _ (by omega) (by omega)) | (go_at_call 36; exact between_no _ _ _ _ (by omega))); clear hK K))
    refine Drift.walk_nil ?_
    intro w2 hb _
    replace HB := Lib.hid (bel2 HB.out hb)
    clear hb z0 z1 z2 z3 z4 z5 z6 z7 HX cS
    simp only [List.length_cons, List.length_nil, List.drop_succ_cons, List.drop_nil, Nat.zero_add, Nat.reduceAdd]
    go_wp2
    go_ret
    exact ⟨rfl, HB.out⟩
  by_cases n2 : 8 ≤ fr ∧ fr ≤ 64
  case neg =>
    have cS := fun W => Lib.hid (isShaped_yes b y fr fa bu le ke va W hs)
    obtain ⟨a1, a2⟩ := n1
    clear h hs
    go_enter Try.func18, Try.ntmps18
    go_upto_region 1 with fail
    have hx := heap_alloc_new W (.cells #[.int .i64 b, .int .i64 y, .int .i64 fr, .int .i64 fa, .int .i64 bu, .int .i64 le, .int .i64 ke, .int .i64 va] 23)
    have hb1 : Below W.heap.size W (W.alloc (.cells #[.int .i64 b, .int .i64 y, .int .i64 fr, .int .i64 fa, .int .i64 bu, .int .i64 le, .int .i64 ke, .int .i64 va] 23)) := (Below.refl _ _).alloc (Nat.le_refl _) _
    obtain ⟨g, hg⟩ : ∃ g, g = W.heap.size := ⟨_, rfl⟩
    generalize W.alloc (.cells #[.int .i64 b, .int .i64 y, .int .i64 fr, .int .i64 fa, .int .i64 bu, .int .i64 le, .int .i64 ke, .int .i64 va] 23) = w1 at *
    rw [← hg] at hx ⊢
    have HX := Lib.hid hx
    have HB := Lib.hid hb1
    obtain ⟨c0, c1, c2, c3, c4, c5, c6, c7⟩ := box8 hx
    clear hx hb1 hg
    have z0 := fun q : Drift.Tide [] w1 [] => Drift.Tide.cell c0 (by simp) q
    have z1 := fun q : Drift.Tide [] w1 [] => Drift.Tide.cell c1 (by simp) q
    have z2 := fun q : Drift.Tide [] w1 [] => Drift.Tide.cell c2 (by simp) q
    have z3 := fun q : Drift.Tide [] w1 [] => Drift.Tide.cell c3 (by simp) q
    have z4 := fun q : Drift.Tide [] w1 [] => Drift.Tide.cell c4 (by simp) q
    have z5 := fun q : Drift.Tide [] w1 [] => Drift.Tide.cell c5 (by simp) q
    have z6 := fun q : Drift.Tide [] w1 [] => Drift.Tide.cell c6 (by simp) q
    have z7 := fun q : Drift.Tide [] w1 [] => Drift.Tide.cell c7 (by simp) q
    clear c0 c1 c2 c3 c4 c5 c6 c7
    refine Drift.wp_region_drift [] [(0,[]),(1,[]),(2,[]),(3,[]),(4,[]),(5,[]),(6,[]),(7,[]),(8,[]),(9,[]),(10,[]),(11,[]),(12,[]),(13,[]),(14,[]),(15,[]),(16,[]),(17,[]),(18,[]),(19,[])] [] [] (by kernel_rfl) (by kernel_rfl) (by simp) ?_
    simp only [Drift.pick, Drift.opsAt, List.getElem?_toArray, List.getElem?_cons_zero, List.getElem?_cons_succ, List.cons_append, List.nil_append, List.filterMap_nil]
    repeat (refine Drift.walk_step (fun K hK => ?_); go_simp; first | (refine hK _ ?_; clear hK K) | (apply Exists.intro; refine ⟨fun q => ?_, hK _ ?_⟩; (first | (go_at_call 35; exact (cS _).out) | (go_at_call 36; exact between_yes _ _ _ _ (by omega) (by omega)) | (go_at_call 36; exact between_no _ _ _ _ (by omega))); clear hK K))
    refine Drift.walk_nil ?_
    intro w2 hb _
    replace HB := Lib.hid (bel2 HB.out hb)
    clear hb z0 z1 z2 z3 z4 z5 z6 z7 HX cS
    simp only [List.length_cons, List.length_nil, List.drop_succ_cons, List.drop_nil, Nat.zero_add, Nat.reduceAdd]
    go_wp2
    go_ret
    exact ⟨rfl, HB.out⟩
  have n3 : ¬ (few fa bu le ke va ≤ y ∧ y ≤ 65536) := fun n3 => h ⟨hs, n1, n2, n3⟩
  clear h
  obtain ⟨a1, a2⟩ := n1
  obtain ⟨a3, a4⟩ := n2
  have h := hs
  clear hs
  have cS := fun W => Lib.hid (isShaped_yes b y fr fa bu le ke va W h)
  have cL := fun W => Lib.hid (Least_yes b y fr fa bu le ke va W h)
  clear h
  generalize few fa bu le ke va = fw at *
  have hfd : ∀ w : World, (Instr.field 23 (.agg #[.int .i64 b, .int .i64 fw, .int .i64 fr, .int .i64 fa, .int .i64 bu, .int .i64 le, .int .i64 ke, .int .i64 va]) 1).run Try.prog w = .ok (.int .i64 fw) w := fun _ => by kernel_rfl
  go_enter Try.func18, Try.ntmps18
  go_upto_region 1 with fail
  have hx := heap_alloc_new W (.cells #[.int .i64 b, .int .i64 y, .int .i64 fr, .int .i64 fa, .int .i64 bu, .int .i64 le, .int .i64 ke, .int .i64 va] 23)
  have hb1 : Below W.heap.size W (W.alloc (.cells #[.int .i64 b, .int .i64 y, .int .i64 fr, .int .i64 fa, .int .i64 bu, .int .i64 le, .int .i64 ke, .int .i64 va] 23)) := (Below.refl _ _).alloc (Nat.le_refl _) _
  obtain ⟨g, hg⟩ : ∃ g, g = W.heap.size := ⟨_, rfl⟩
  generalize W.alloc (.cells #[.int .i64 b, .int .i64 y, .int .i64 fr, .int .i64 fa, .int .i64 bu, .int .i64 le, .int .i64 ke, .int .i64 va] 23) = w1 at *
  rw [← hg] at hx ⊢
  have HX := Lib.hid hx
  have HB := Lib.hid hb1
  obtain ⟨c0, c1, c2, c3, c4, c5, c6, c7⟩ := box8 hx
  clear hx hb1 hg
  have z0 := fun q : Drift.Tide [] w1 [] => Drift.Tide.cell c0 (by simp) q
  have z1 := fun q : Drift.Tide [] w1 [] => Drift.Tide.cell c1 (by simp) q
  have z2 := fun q : Drift.Tide [] w1 [] => Drift.Tide.cell c2 (by simp) q
  have z3 := fun q : Drift.Tide [] w1 [] => Drift.Tide.cell c3 (by simp) q
  have z4 := fun q : Drift.Tide [] w1 [] => Drift.Tide.cell c4 (by simp) q
  have z5 := fun q : Drift.Tide [] w1 [] => Drift.Tide.cell c5 (by simp) q
  have z6 := fun q : Drift.Tide [] w1 [] => Drift.Tide.cell c6 (by simp) q
  have z7 := fun q : Drift.Tide [] w1 [] => Drift.Tide.cell c7 (by simp) q
  clear c0 c1 c2 c3 c4 c5 c6 c7
  refine Drift.wp_region_drift [] [(0,[]),(1,[]),(2,[]),(3,[]),(4,[]),(5,[]),(6,[]),(7,[]),(8,[]),(9,[]),(10,[]),(11,[]),(12,[]),(13,[]),(14,[]),(15,[]),(16,[]),(17,[]),(18,[]),(19,[])] [] [] (by kernel_rfl) (by kernel_rfl) (by simp) ?_
  simp only [Drift.pick, Drift.opsAt, List.getElem?_toArray, List.getElem?_cons_zero, List.getElem?_cons_succ, List.cons_append, List.nil_append, List.filterMap_nil]
  repeat (refine Drift.walk_step (fun K hK => ?_); go_simp; first | (refine hK _ ?_; clear hK K) | (apply Exists.intro; refine ⟨fun q => ?_, hK _ ?_⟩; (first | (go_at_call 35; exact (cS _).out) | (go_at_call 37; exact (cL _).out) | (go_at_call 36; exact between_yes _ _ _ _ (by omega) (by omega)) | (go_at_call 36; exact between_no _ _ _ _ (by omega))); clear hK K))
  refine Drift.walk_nil ?_
  intro w2 hb _
  replace HB := Lib.hid (bel2 HB.out hb)
  clear hb z0 z1 z2 z3 z4 z5 z6 z7 HX cS cL hfd
  simp only [List.length_cons, List.length_nil, List.drop_succ_cons, List.drop_nil, Nat.zero_add, Nat.reduceAdd]
  go_wp2
  go_ret
  exact ⟨rfl, HB.out⟩
end Cf
end Go.Proofs.Yteefkhgmcknbaaa
