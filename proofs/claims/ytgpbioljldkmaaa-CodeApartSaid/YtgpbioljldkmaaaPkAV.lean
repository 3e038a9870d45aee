/-
  Conf3, CodeC4. Put together by pack.py.
-/
import Derived.Test.YtgpbioljldkmaaaPkAG
import Derived.Test.YtgpbioljldkmaaaPqConf2
import Derived.Test.YtgpbioljldkmaaaPqCodeC3
import Derived.Test.YtgpbioljldkmaaaPkAT
import Derived.Test.YtgpbioljldkmaaaPkAE

namespace Go.Proofs.Ytgpbioljldkmaaa
open Go.RowKit
namespace Cf

set_option maxRecDepth 100000 in
set_option maxHeartbeats 2000000 in
theorem Check_yes (b y fr fa bu le ke va : Int) (W : World) (h : Right b y fr fa bu le ke va) : Calls Try.prog 10 #[.agg #[.int .i64 b, .int .i64 y, .int .i64 fr, .int .i64 fa, .int .i64 bu, .int .i64 le, .int .i64 ke, .int .i64 va]] W fun e w' => e = .returned (.int .i64 0) ∧ Below W.heap.size W w' := by
  obtain ⟨h, ⟨a1, a2⟩, ⟨a3, a4⟩, a5, a6⟩ := h
  have cS := fun W => Lib.hid (isShaped_yes b y fr fa bu le ke va W h)
  have cL := fun W => Lib.hid (Least_yes b y fr fa bu le ke va W h)
  clear h
  generalize few fa bu le ke va = fw at *
  have hfd : ∀ w : World, (Instr.field 23 (.agg #[.int .i64 b, .int .i64 fw, .int .i64 fr, .int .i64 fa, .int .i64 bu, .int .i64 le, .int .i64 ke, .int .i64 va]) 1).run Try.prog w = .ok (.int .i64 fw) w := fun _ => by kernel_rfl
  go_enter Try.func10, Try.ntmps10
  go_upto_region 1 with fail
  have hx := heap_alloc_new W (.cells #[.int .i64 b, .int .i64 y, .int .i64 fr, .int .i64 fa, .int .i64 bu, .int .i64 le, .int .i64 ke, .int .i64 va] 23)
  have hb1 : Below W.heap.size W (W.alloc (.cells #[.int .i64 b, .int .i64 y, .int .i64 fr, .int .i64 fa, .int .i64 bu, .int .i64 le, .int .i64 ke, .int .i64 va] 23)) := (Below.refl _ _).alloc (Nat.le_refl _) _
  obtain ⟨g, hg⟩ : ∃ g, g = W.heap.size := ⟨_, rfl⟩
  generalize W.alloc (.cells #[.int .i64 b, .int .i64 y, .int .i64 fr, .int .i64 fa, .int .i64 bu, .int .i64 le, .int .i64 ke, .int .i64 va] 23) = w1 at *
  rw [← hg] at hx ⊢
  have HX := Lib.hid hx
  have HB := Lib.hid hb1
  obtain ⟨c0, c1, c2, c3, c4, c5, c6, c7⟩ := box8 hx
  clear hx hb1 hg
  have z0 := fun q : Drift.Tide [] w1 [] => Drift.Tide.cell c0 (by simp) q
  have z1 := fun q : Drift.Tide [] w1 [] => Drift.Tide.cell c1 (by simp) q
  have z2 := fun q : Drift.Tide [] w1 [] => Drift.Tide.cell c2 (by simp) q
  have z3 := fun q : Drift.Tide [] w1 [] => Drift.Tide.cell c3 (by simp) q
  have z4 := fun q : Drift.Tide [] w1 [] => Drift.Tide.cell c4 (by simp) q
  have z5 := fun q : Drift.Tide [] w1 [] => Drift.Tide.cell c5 (by simp) q
  have z6 := fun q : Drift.Tide [] w1 [] => Drift.Tide.cell c6 (by simp) q
  have z7 := fun q : Drift.Tide [] w1 [] => Drift.Tide.cell c7 (by simp) q
  clear c0 c1 c2 c3 c4 c5 c6 c7
  refine Drift.wp_region_drift [] [(0,[]),(1,[]),(2,[]),(3,[]),(4,[]),(5,[]),(6,[]),(7,[]),(8,[]),(9,[]),(10,[]),(11,[]),(12,[]),(13,[]),(14,[]),(15,[]),(16,[]),(17,[]),(18,[]),(19,[])] [] [] (by kernel_rfl) (by kernel_rfl) (by simp) ?_
  simp only [Drift.pick, Drift.opsAt, List.getElem?_toArray, List.getElem?_cons_zero, List.getElem?_cons_succ, List.cons_append, List.nil_append, List.filterMap_nil]
  repeat (refine Drift.walk_step (fun K hK => ?_); go_simp; first | (refine hK _ ?_; clear hK K) | (apply Exists.intro; refine ⟨fun q => ?_, hK _ ?_⟩; (first | (go_at_call 18; exact (cS _).out) | (go_at_call 20; exact (cL _).out) | (go_at_call 19; exact between_yes _ _ _ _ (by omega) (by omega)) | (go_at_call 19; exact between_no _ _ _ _ (by omega))); clear hK K))
  refine Drift.walk_nil ?_
  intro w2 hb _
  replace HB := Lib.hid (bel2 HB.out hb)
  clear hb z0 z1 z2 z3 z4 z5 z6 z7 HX cS cL hfd
  simp only [List.length_cons, List.length_nil, List.drop_succ_cons, List.drop_nil, Nat.zero_add, Nat.reduceAdd]
  go_wp2
  go_ret
  exact ⟨rfl, HB.out⟩
set_option maxRecDepth 100000 in
set_option maxHeartbeats 2000000 in
theorem Check_no (b y fr fa bu le ke va : Int) (W : World) (h : ¬ Right b y fr fa bu le ke va) : Calls Try.prog 10 #[.agg #[.int .i64 b, .int .i64 y, .int .i64 fr, .int .i64 fa, .int .i64 bu, .int .i64 le, .int .i64 ke, .int .i64 va]] W fun e w' => e = .returned (.int .i64 2) ∧ Below W.heap.size W w' := by
  by_cases hs : Shape fa bu le ke va
  case neg =>
    have cS := fun W => Lib.hid (isShaped_no b y fr fa bu le ke va W hs)
    clear h hs
    go_enter Try.func10, Try.ntmps10
    go_upto_region 1 with fail
    have hx := heap_alloc_new W (.cells #[.int .i64 b, .int .i64 y, .int .i64 fr, .int .i64 fa, .int .i64 bu, .int .i64 le, .int .i64 ke, .int .i64 va] 23)
    have hb1 : Below W.heap.size W (W.alloc (.cells #[.int .i64 b, .int .i64 y, .int .i64 fr, .int .i64 fa, .int .i64 bu, .int .i64 le, .int .i64 ke, .int .i64 va] 23)) := (Below.refl _ _).alloc (Nat.le_refl _) _
    obtain ⟨g, hg⟩ : ∃ g, g = W.heap.size := ⟨_, rfl⟩
    generalize W.alloc (.cells #[.int .i64 b, .int .i64 y, .int .i64 fr, .int .i64 fa, .int .i64 bu, .int .i64 le, .int .i64 ke, .int .i64 va] 23) = w1 at *
    rw [← hg] at hx ⊢
    have HX := Lib.hid hx
    have HB := Lib.hid hb1
    obtain ⟨c0, c1, c2, c3, c4, c5, c6, c7⟩ := box8 hx
    clear hx hb1 hg
    have z0 := fun q : Drift.Tide [] w1 [] => Drift.Tide.cell c0 (by simp) q
    have z1 := fun q : Drift.Tide [] w1 [] => Drift.Tide.cell c1 (by simp) q
    have z2 := fun q : Drift.Tide [] w1 [] => Drift.Tide.cell c2 (by simp) q
    have z3 := fun q : Drift.Tide [] w1 [] => Drift.Tide.cell c3 (by simp) q
    have z4 := fun q : Drift.Tide [] w1 [] => Drift.Tide.cell c4 (by simp) q
    have z5 := fun q : Drift.Tide [] w1 [] => Drift.Tide.cell c5 (by simp) q
    have z6 := fun q : Drift.Tide [] w1 [] => Drift.Tide.cell c6 (by simp) q
    have z7 := fun q : Drift.Tide [] w1 [] => Drift.Tide.cell c7 (by simp) q
    clear c0 c1 c2 c3 c4 c5 c6 c7
    refine Drift.wp_region_drift [] [(0,[]),(1,[]),(2,[]),(3,[]),(4,[]),(5,[]),(6,[]),(7,[]),(8,[]),(9,[]),(10,[]),(11,[]),(12,[]),(13,[]),(14,[]),(15,[]),(16,[]),(17,[]),(18,[]),(19,[])] [] [] (by kernel_rfl) (by kernel_rfl) (by simp) ?_
    simp only [Drift.pick, Drift.opsAt, List.getElem?_toArray, List.getElem?_cons_zero, List.getElem?_cons_succ, List.cons_append, List.nil_append, List.filterMap_nil]
    repeat (refine Drift.walk_step (fun K hK => ?_); go_simp; first | (refine hK _ ?_; clear hK K) | (apply Exists.intro; refine ⟨fun q => ?_, hK _ ?_⟩; (first | (go_at_call 18; exact (cS _).out)); clear hK K))
    refine Drift.walk_nil ?_
    intro w2 hb _
    replace HB := Lib.hid (bel2 HB.out hb)
    clear hb z0 z1 z2 z3 z4 z5 z6 z7 HX cS
    simp only [List.length_cons, List.length_nil, List.drop_succ_cons, List.drop_nil, Nat.zero_add, Nat.reduceAdd]
    go_wp2
    go_ret
    exact ⟨rfl, HB.out⟩
  by_cases n1 : 5 ≤ b ∧ b ≤ 65536
  case neg =>
    have cS := fun W => Lib.hid (isShaped_yes b y fr fa bu le ke va W hs)
    clear h hs
    go_enter Try.func10, Try.ntmps10
    go_upto_region 1 with fail
    have hx := heap_alloc_new W (.cells #[.int .i64 b, .int .i64 y, .int .i64 fr, .int .i64 fa, .int .i64 bu, .int .i64 le, .int .i64 ke, .int .i64 va] 23)
    have hb1 : Below W.heap.size W (W.alloc (.cells #[.int .i64 b, .int .i64 y, .int .i64 fr, .int .i64 fa, .int .i64 bu, .int .i64 le, .int .i64 ke, .int .i64 va] 23)) := (Below.refl _ _).alloc (Nat.le_refl _) _
    obtain ⟨g, hg⟩ : ∃ g, g = W.heap.size := ⟨_, rfl⟩
    generalize W.alloc (.cells #[.int .i64 b, .int .i64 y, .int .i64 fr, .int .i64 fa, .int .i64 bu, .int .i64 le, .int .i64 ke, .int .i64 va] 23) = w1 at *
    rw [← hg] at hx ⊢
    have HX := Lib.hid hx
    have HB := Lib.hid hb1
    obtain ⟨c0, c1, c2, c3, c4, c5, c6, c7⟩ := box8 hx
    clear hx hb1 hg
    have z0 := fun q : Drift.Tide [] w1 [] => Drift.Tide.cell c0 (by simp) q
    have z1 := fun q : Drift.Tide [] w1 [] => Drift.Tide.cell c1 (by simp) q
    have z2 := fun q : Drift.Tide [] w1 [] => Drift.Tide.cell c2 (by simp) q
    have z3 := fun q : Drift.Tide [] w1 [] => Drift.Tide.cell c3 (by simp) q
    have z4 := fun q : Drift.Tide [] w1 [] => Drift.Tide.cell c4 (by simp) q
    have z5 := fun q : Drift.Tide [] w1 [] => Drift.Tide.cell c5 (by simp) q
    have z6 := fun q : Drift.Tide [] w1 [] => Drift.Tide.cell c6 (by simp) q
    have z7 := fun q : Drift.Tide [] w1 [] => Drift.Tide.cell c7 (by simp) q
    clear c0 c1 c2 c3 c4 c5 c6 c7
    refine Drift.wp_region_drift [] [(0,[]),(1,[]),(2,[]),(3,[]),(4,[]),(5,[]),(6,[]),(7,[]),(8,[]),(9,[]),(10,[]),(11,[]),(12,[]),(13,[]),(14,[]),(15,[]),(16,[]),(17,[]),(18,[]),(19,[])] [] [] (by kernel_rfl) (by kernel_rfl) (by simp) ?_
    simp only [Drift.pick, Drift.opsAt, List.getElem?_toArray, List.getElem?_cons_zero, List.getElem?_cons_succ, List.cons_append, List.nil_append, List.filterMap_nil]
    repeat (refine Drift.walk_step (fun K hK => ?_); go_simp; first | (refine hK _ ?_; clear hK K) | (apply Exists.intro; refine ⟨fun q => ?_, hK _ ?_⟩; (first | (go_at_call 18; exact (cS _).out) | (go_at_call 19; exact between_yes _ _ _ _ (by omega) (by omega)) | (go_at_call 19; exact between_no _ _ _ _ (by omega))); clear hK K))
    refine Drift.walk_nil ?_
    intro w2 hb _
    replace HB := Lib.hid (bel2 HB.out hb)
    clear hb z0 z1 z2 z3 z4 z5 z6 z7 HX cS
    simp only [List.length_cons, List.length_nil, List.drop_succ_cons, List.drop_nil, Nat.zero_add, Nat.reduceAdd]
    go_wp2
    go_ret
    exact ⟨rfl, HB.out⟩
  by_cases n2 : 8 ≤ fr ∧ fr ≤ 64
  case neg =>
    have cS := fun W => Lib.hid (isShaped_yes b y fr fa bu le ke va W hs)
    obtain ⟨a1, a2⟩ := n1
    clear h hs
    go_enter Try.func10, Try.ntmps10
    go_upto_region 1 with fail
    have hx := heap_alloc_new W (.cells #[.int .i64 b, .int .i64 y, .int .i64 fr, .int .i64 fa, .int .i64 bu, .int .i64 le, .int .i64 ke, .int .i64 va] 23)
    have hb1 : Below W.heap.size W (W.alloc (.cells #[.int .i64 b, .int .i64 y, .int .i64 fr, .int .i64 fa, .int .i64 bu, .int .i64 le, .int .i64 ke, .int .i64 va] 23)) := (Below.refl _ _).alloc (Nat.le_refl _) _
    obtain ⟨g, hg⟩ : ∃ g, g = W.heap.size := ⟨_, rfl⟩
    generalize W.alloc (.cells #[.int .i64 b, .int .i64 y, .int .i64 fr, .int .i64 fa, .int .i64 bu, .int .i64 le, .int .i64 ke, .int .i64 va] 23) = w1 at *
    rw [← hg] at hx ⊢
    have HX := Lib.hid hx
    have HB := Lib.hid hb1
    obtain ⟨c0, c1, c2, c3, c4, c5, c6, c7⟩ := box8 hx
    clear hx hb1 hg
    have z0 := fun q : Drift.Tide [] w1 [] => Drift.Tide.cell c0 (by simp) q
    have z1 := fun q : Drift.Tide [] w1 [] => Drift.Tide.cell c1 (by simp) q
    have z2 := fun q : Drift.Tide [] w1 [] => Drift.Tide.cell c2 (by simp) q
    have z3 := fun q : Drift.Tide [] w1 [] => Drift.Tide.cell c3 (by simp) q
    have z4 := fun q : Drift.Tide [] w1 [] => Drift.Tide.cell c4 (by simp) q
    have z5 := fun q : Drift.Tide [] w1 [] => Drift.Tide.cell c5 (by simp) q
    have z6 := fun q : Drift.Tide [] w1 [] => Drift.Tide.cell c6 (by simp) q
    have z7 := fun q : Drift.Tide [] w1 [] => Drift.Tide.cell c7 (by simp) q
    clear c0 c1 c2 c3 c4 c5 c6 c7
    refine Drift.wp_region_drift [] [(0,[]),(1,[]),(2,[]),(3,[]),(4,[]),(5,[]),(6,[]),(7,[]),(8,[]),(9,[]),(10,[]),(11,[]),(12,[]),(13,[]),(14,[]),(15,[]),(16,[]),(17,[]),(18,[]),(19,[])] [] [] (by kernel_rfl) (by kernel_rfl) (by simp) ?_
    simp only [Drift.pick, Drift.opsAt, List.getElem?_toArray, List.getElem?_cons_zero, List.getElem?_cons_succ, List.cons_append, List.nil_append, List.filterMap_nil]
    repeat (refine Drift.walk_step (fun K hK => ?_); go_simp; first | (refine hK _ ?_; clear hK K) | (apply Exists.intro; refine ⟨fun q => ?_, hK _ ?_⟩; (first | (go_at_call 18; exact (cS _).out) | (go_at_call 19; exact between_yes _ _ _ _ (by omega) (by omega)) | (go_at_call 19; exact between_no _ _ _ _ (by omega))); clear hK K))
    refine Drift.walk_nil ?_
    intro w2 hb _
    replace HB := Lib.hid (bel2 HB.out hb)
    clear hb z0 z1 z2 z3 z4 z5 z6 z7 HX cS
    simp only [List.length_cons, List.length_nil, List.drop_succ_cons, List.drop_nil, Nat.zero_add, Nat.reduceAdd]
    go_wp2
    go_ret
    exact ⟨rfl, HB.out⟩
  have n3 : ¬ (few fa bu le ke va ≤ y ∧ y ≤ 65536) := fun n3 => h ⟨hs, n1, n2, n3⟩
  clear h
  obtain ⟨a1, a2⟩ := n1
  obtain ⟨a3, a4⟩ := n2
  have h := hs
  clear hs
  have cS := fun W => Lib.hid (isShaped_yes b y fr fa bu le ke va W h)
  have cL := fun W => Lib.hid (Least_yes b y fr fa bu le ke va W h)
  clear h
  generalize few fa bu le ke va = fw at *
  have hfd : ∀ w : World, (Instr.field 23 (.agg #[.int .i64 b, .int .i64 fw, .int .i64 fr, .int .i64 fa, .int .i64 bu, .int .i64 le, .int .i64 ke, .int .i64 va]) 1).run Try.prog w = .ok (.int .i64 fw) w := fun _ => by kernel_rfl
  go_enter Try.func10, Try.ntmps10
  go_upto_region 1 with fail
  have hx := heap_alloc_new W (.cells #[.int .i64 b, .int .i64 y, .int .i64 fr, .int .i64 fa, .int .i64 bu, .int .i64 le, .int .i64 ke, .int .i64 va] 23)
  have hb1 : Below W.heap.size W (W.alloc (.cells #[.int .i64 b, .int .i64 y, .int .i64 fr, .int .i64 fa, .int .i64 bu, .int .i64 le, .int .i64 ke, .int .i64 va] 23)) := (Below.refl _ _).alloc (Nat.le_refl _) _
  obtain ⟨g, hg⟩ : ∃ g, g = W.heap.size := ⟨_, rfl⟩
  generalize W.alloc (.cells #[.int .i64 b, .int .i64 y, .int .i64 fr, .int .i64 fa, .int .i64 bu, .int .i64 le, .int .i64 ke, .int .i64 va] 23) = w1 at *
  rw [← hg] at hx ⊢
  have HX := Lib.hid hx
  have HB := Lib.hid hb1
  obtain ⟨c0, c1, c2, c3, c4, c5, c6, c7⟩ := box8 hx
  clear hx hb1 hg
  have z0 := fun q : Drift.Tide [] w1 [] => Drift.Tide.cell c0 (by simp) q
  have z1 := fun q : Drift.Tide [] w1 [] => Drift.Tide.cell c1 (by simp) q
  have z2 := fun q : Drift.Tide [] w1 [] => Drift.Tide.cell c2 (by simp) q
  have z3 := fun q : Drift.Tide [] w1 [] => Drift.Tide.cell c3 (by simp) q
  have z4 := fun q : Drift.Tide [] w1 [] => Drift.Tide.cell c4 (by simp) q
  have z5 := fun q : Drift.Tide [] w1 [] => Drift.Tide.cell c5 (by simp) q
  have z6 := fun q : Drift.Tide [] w1 [] => Drift.Tide.cell c6 (by simp) q
  have z7 := fun q : Drift.Tide [] w1 [] => Drift.Tide.cell c7 (by simp) q
  clear c0 c1 c2 c3 c4 c5 c6 c7
  refine Drift.wp_region_drift [] [(0,[]),(1,[]),(2,[]),(3,[]),(4,[]),(5,[]),(6,[]),(7,[]),(8,[]),(9,[]),(10,[]),(11,[]),(12,[]),(13,[]),(14,[]),(15,[]),(16,[]),(17,[]),(18,[]),(19,[])] [] [] (by kernel_rfl) (by kernel_rfl) (by simp) ?_
  simp only [Drift.pick, Drift.opsAt, List.getElem?_toArray, List.getElem?_cons_zero, List.getElem?_cons_succ, List.cons_append, List.nil_append, List.filterMap_nil]
  repeat (refine Drift.walk_step (fun K hK => ?_); go_simp; first | (refine hK _ ?_; clear hK K) | (apply Exists.intro; refine ⟨fun q => ?_, hK _ ?_⟩; (first | (go_at_call 18; exact (cS _).out) | (go_at_call 20; exact (cL _).out) | (go_at_call 19; exact between_yes _ _ _ _ (by omega) (by omega)) | (go_at_call 19; exact between_no _ _ _ _ (by omega))); clear hK K))
  refine Drift.walk_nil ?_
  intro w2 hb _
  replace HB := Lib.hid (bel2 HB.out hb)
  clear hb z0 z1 z2 z3 z4 z5 z6 z7 HX cS cL hfd
  simp only [List.length_cons, List.length_nil, List.drop_succ_cons, List.drop_nil, Nat.zero_add, Nat.reduceAdd]
  go_wp2
  go_ret
  exact ⟨rfl, HB.out⟩
end Cf
end Go.Proofs.Ytgpbioljldkmaaa

namespace Go.Proofs.Ytgpbioljldkmaaa
open Go.RowKit
namespace No
open Mem Lx Bu Lf Fa
open Wd (be val be_length val_be isW u8info)
set_option maxRecDepth 100000 in
set_option maxHeartbeats 4000000 in
theorem IsRight_any (c : Cfg) {n : Nd} {a : At} {W : World} (h : NdIn W n a) (hz : Sz n) (hk8 : n.kids.length ≤ 80) (hkid : ∀ k, k ∈ n.kids → k < 4294967296) (t : Bool) (ht : t = true ↔ RightN c ⟨#[]⟩ ⟨#[]⟩ true n) : Calls Try.prog 11 #[.agg (cfCs c), .agg (ndCs n a)] W fun e w' => e = .returned (.bool t) ∧ Below W.heap.size W w' := by
  have cR : ∀ w, Below W.heap.size W w → Hid (Calls Try.prog 21 #[.agg (cfCs c), .agg #[.string ⟨#[]⟩, .string ⟨#[]⟩, .bool true], .agg (ndCs n a)] w fun e w' => e = .returned (.bool t) ∧ Below w.heap.size w w') := fun w hb => (Right_sz c ⟨#[]⟩ ⟨#[]⟩ true (h.kept hb) hz hk8 hkid).mono fun e w' ⟨⟨v, he, hv⟩, hb⟩ => ⟨by rw [he, bool_one hv ht], hb⟩
  have cA := fun w => Lib.hid (All_any w)
  clear h hz hk8 hkid ht
  obtain ⟨cB, cY, cF, cN, cU, cL, cKy, cV⟩ := c
  obtain ⟨lv, K, P, B, Q⟩ := n
  obtain ⟨kA, kc, pA, pc, bA, bc, qA, qc⟩ := a
  unfold cfCs ndCs at *
  simp only at *
  generalize K.length = kn at *
  generalize P.length = pn at *
  generalize B.length = bn at *
  generalize Q.length = qn at *
  go_enter Try.func11, Try.ntmps11
  go_upto_region 1 with fail
  have HB := Lib.hid (Bx2.new W (.cells #[.int .i64 cB, .int .i64 cY, .int .i64 cF, .int .i64 cN, .int .i64 cU, .int .i64 cL, .int .i64 cKy, .int .i64 cV] 23) (.cells #[.int .i64 lv, .slice kA kn kc, .slice pA pn pc, .slice bA bn bc, .slice qA qn qc] 29))
  generalize (W.alloc (.cells #[.int .i64 cB, .int .i64 cY, .int .i64 cF, .int .i64 cN, .int .i64 cU, .int .i64 cL, .int .i64 cKy, .int .i64 cV] 23)).alloc (.cells #[.int .i64 lv, .slice kA kn kc, .slice pA pn pc, .slice bA bn bc, .slice qA qn qc] 29) = w1 at *
  obtain ⟨g, hg⟩ : ∃ g, g = W.heap.size := ⟨_, rfl⟩
  rw [← hg] at HB
  simp only [← hg]
  clear hg
  obtain ⟨g0, g1, g2, g3, g4, g5, g6, g7⟩ := box8 HB.out.x
  obtain ⟨d0, d1, d2, d3, d4⟩ := box5 HB.out.y
  have t0 := fun q : Drift.Tide [] w1 [] => Drift.Tide.cell g0 (by simp) q
  have t1 := fun q : Drift.Tide [] w1 [] => Drift.Tide.cell g1 (by simp) q
  have t2 := fun q : Drift.Tide [] w1 [] => Drift.Tide.cell g2 (by simp) q
  have t3 := fun q : Drift.Tide [] w1 [] => Drift.Tide.cell g3 (by simp) q
  have t4 := fun q : Drift.Tide [] w1 [] => Drift.Tide.cell g4 (by simp) q
  have t5 := fun q : Drift.Tide [] w1 [] => Drift.Tide.cell g5 (by simp) q
  have t6 := fun q : Drift.Tide [] w1 [] => Drift.Tide.cell g6 (by simp) q
  have t7 := fun q : Drift.Tide [] w1 [] => Drift.Tide.cell g7 (by simp) q
  have u0 := fun q : Drift.Tide [] w1 [] => Drift.Tide.cell d0 (by simp) q
  have u1 := fun q : Drift.Tide [] w1 [] => Drift.Tide.cell d1 (by simp) q
  have u2 := fun q : Drift.Tide [] w1 [] => Drift.Tide.cell d2 (by simp) q
  have u3 := fun q : Drift.Tide [] w1 [] => Drift.Tide.cell d3 (by simp) q
  have u4 := fun q : Drift.Tide [] w1 [] => Drift.Tide.cell d4 (by simp) q
  clear g0 g1 g2 g3 g4 g5 g6 g7 d0 d1 d2 d3 d4
  refine Drift.wp_region_drift [] [(0,[]),(1,[]),(2,[]),(3,[])] [] [] (by kernel_rfl) (by kernel_rfl) (by simp) ?_
  simp only [Drift.pick, Drift.opsAt, List.getElem?_toArray, List.getElem?_cons_zero, List.getElem?_cons_succ, List.cons_append, List.nil_append, List.filterMap_nil]
  repeat (refine Drift.walk_step (fun K hK => ?_); go_simp; first | (refine hK _ ?_; clear hK K) | (apply Exists.intro; refine ⟨fun q => ?_, hK _ ?_⟩; (first | (go_at_call 22; exact (cA _).out) | (go_at_call 21; exact (cR _ (HB.out.kept q.into.below).below).out)); clear hK K))
  refine Drift.walk_nil ?_
  intro w7 hb7 hl7
  replace HB := Lib.hid (HB.out.kept hb7)
  clear hb7 hl7 t0 t1 t2 t3 t4 t5 t6 t7 u0 u1 u2 u3 u4
  simp only [List.length_cons, List.length_nil, List.drop_succ_cons, List.drop_zero, Nat.zero_add, Nat.reduceAdd]
  go_wp2_with fail
  go_ret
  exact ⟨rfl, HB.out.below⟩
theorem FrB.mono {w : World} {B B' : Nat} {A : Option Addr} {s : List UInt8} (h : FrB w B A s) (hb : B' ≤ B) : FrB w B' A s := ⟨h.bl, fun h0 => by
  obtain ⟨g, o, C, e, h1, h2⟩ := h.own h0
  exact ⟨g, o, C, e, Nat.le_trans hb h1, h2⟩⟩
theorem FrB.none_ (w : World) (B : Nat) (A : Option Addr) : FrB w B A [] := ⟨BL.nil _ _, fun h => absurd h (by simp)⟩
set_option maxRecDepth 100000 in
set_option maxHeartbeats 4000000 in
theorem Encode_c (c : Cfg) {n : Nd} {a : At} {W : World} (h : NdIn W n a) (hz : Sz n) (hk8 : n.kids.length ≤ 80) (hkid : ∀ k, k ∈ n.kids → k < 4294967296) (_ : c.bytes ≤ 3000) {s : List UInt8} {f : Int} (he : EncP c n s f) : Calls Try.prog 7 #[.agg (cfCs c), .agg (ndCs n a)] W fun e w' => (∃ A cap, e = .returned (.tuple #[.slice A s.length cap, .int .i64 f]) ∧ FrB w' W.heap.size A s ∧ s.length ≤ cap) ∧ Below W.heap.size W w' := by
  obtain ⟨q, hq⟩ := bool_of (Cf.Right c.blocks c.bytes c.frames c.fan c.buffer c.leaf c.key c.val)
  have cQ : ∀ w, Hid (Calls Try.prog 10 #[.agg (cfCs c)] w fun e w' => e = .returned (.int .i64 (if q then 0 else 2)) ∧ Below w.heap.size w w') := fun w => by
    cases q with
    | true => exact Cf.Check_yes c.blocks c.bytes c.frames c.fan c.buffer c.leaf c.key c.val w (hq.1 rfl)
    | false => exact Cf.Check_no c.blocks c.bytes c.frames c.fan c.buffer c.leaf c.key c.val w (fun h => by cases hq.2 h)
  obtain ⟨t, ht⟩ := bool_of (RightN c ⟨#[]⟩ ⟨#[]⟩ true n)
  have cR : ∀ w, Below W.heap.size W w → Hid (Calls Try.prog 11 #[.agg (cfCs c), .agg (ndCs n a)] w fun e w' => e = .returned (.bool t) ∧ Below w.heap.size w w') := fun w hb => IsRight_any c (h.kept hb) hz hk8 hkid t ht
  have cW : RightA c n → ∀ w, Below W.heap.size W w → Hid (Calls Try.prog 12 #[.agg (cfCs c), .agg (ndCs n a)] w fun e w' => (∃ A cap, e = .returned (.slice A (blockL c n).length cap) ∧ FrB w' w.heap.size A (blockL c n) ∧ (blockL c n).length ≤ cap) ∧ Below w.heap.size w w') := fun hr w hb => Write_any c (h.kept hb) hkid hr
  have HE : Hid ((q = false → s = [] ∧ f = 2) ∧ (q = true → t = false → s = [] ∧ f = 3) ∧ (q = true → t = true → RightA c n ∧ s = blockL c n ∧ f = 0)) := by
    refine ⟨fun e => ?_, fun e e2 => ?_, fun e e2 => ?_⟩
    · refine EncP.one he (.inl ⟨fun h => ?_, rfl, rfl⟩)
      rw [hq.2 h] at e
      cases e
    · refine EncP.one he (.inr (.inl ⟨hq.1 e, fun h => ?_, rfl, rfl⟩))
      rw [ht.2 h.2] at e2
      cases e2
    · have h9 : RightA c n := ⟨hq.1 e, ht.1 e2⟩
      exact ⟨h9, EncP.one he (.inr (.inr ⟨h9, rfl, rfl⟩))⟩
  clear h hz hkid he hq ht hk8
  cases q with
  | false =>
    obtain ⟨rfl, rfl⟩ := HE.out.1 rfl
    clear HE cR cW
    simp only [Bool.false_eq_true, if_false] at cQ
    obtain ⟨cB, cY, cF, cN, cU, cL, cKy, cV⟩ := c
    obtain ⟨lv, K, P, B, Q⟩ := n
    obtain ⟨kA, kc, pA, pc, bA, bc, qA, qc⟩ := a
    unfold cfCs ndCs at *
    simp only at *
    generalize K.length = kn at *
    generalize P.length = pn at *
    generalize B.length = bn at *
    generalize Q.length = qn at *
    go_enter Try.func7, Try.ntmps7
    go_upto_region 1 with fail
    have HB := Lib.hid (Bx2.new W (.cells #[.int .i64 cB, .int .i64 cY, .int .i64 cF, .int .i64 cN, .int .i64 cU, .int .i64 cL, .int .i64 cKy, .int .i64 cV] 23) (.cells #[.int .i64 lv, .slice kA kn kc, .slice pA pn pc, .slice bA bn bc, .slice qA qn qc] 29))
    generalize (W.alloc (.cells #[.int .i64 cB, .int .i64 cY, .int .i64 cF, .int .i64 cN, .int .i64 cU, .int .i64 cL, .int .i64 cKy, .int .i64 cV] 23)).alloc (.cells #[.int .i64 lv, .slice kA kn kc, .slice pA pn pc, .slice bA bn bc, .slice qA qn qc] 29) = w1 at *
    obtain ⟨g, hg⟩ : ∃ g, g = W.heap.size := ⟨_, rfl⟩
    rw [← hg] at HB
    simp only [← hg]
    clear hg
    obtain ⟨g0, g1, g2, g3, g4, g5, g6, g7⟩ := box8 HB.out.x
    obtain ⟨d0, d1, d2, d3, d4⟩ := box5 HB.out.y
    go_wp2_with (go_at_call 10; refine (cQ _).out.mono ?_; rintro e w2 ⟨rfl, hb⟩; replace HB := Lib.hid (HB.out.kept hb); clear hb cQ g0 g1 g2 g3 g4 g5 g6 g7 d0 d1 d2 d3 d4; obtain ⟨g0, g1, g2, g3, g4, g5, g6, g7⟩ := box8 HB.out.x; obtain ⟨d0, d1, d2, d3, d4⟩ := box5 HB.out.y)
    exact bodyPost_ret (v := .tuple #[.slice none 0 0, .int .i64 2]) (by simp [results, Try.results7, go_sem]) rfl ⟨⟨none, 0, rfl, FrB.none_ _ _ _, Nat.le_refl _⟩, HB.out.below⟩
  | true =>
    simp only [if_true] at cQ
    cases t with
    | false =>
      obtain ⟨rfl, rfl⟩ := HE.out.2.1 rfl rfl
      clear HE cW
      obtain ⟨cB, cY, cF, cN, cU, cL, cKy, cV⟩ := c
      obtain ⟨lv, K, P, B, Q⟩ := n
      obtain ⟨kA, kc, pA, pc, bA, bc, qA, qc⟩ := a
      unfold cfCs ndCs at *
      simp only at *
      generalize K.length = kn at *
      generalize P.length = pn at *
      generalize B.length = bn at *
      generalize Q.length = qn at *
      go_enter Try.func7, Try.ntmps7
      go_upto_region 1 with fail
      have HB := Lib.hid (Bx2.new W (.cells #[.int .i64 cB, .int .i64 cY, .int .i64 cF, .int .i64 cN, .int .i64 cU, .int .i64 cL, .int .i64 cKy, .int .i64 cV] 23) (.cells #[.int .i64 lv, .slice kA kn kc, .slice pA pn pc, .slice bA bn bc, .slice qA qn qc] 29))
      generalize (W.alloc (.cells #[.int .i64 cB, .int .i64 cY, .int .i64 cF, .int .i64 cN, .int .i64 cU, .int .i64 cL, .int .i64 cKy, .int .i64 cV] 23)).alloc (.cells #[.int .i64 lv, .slice kA kn kc, .slice pA pn pc, .slice bA bn bc, .slice qA qn qc] 29) = w1 at *
      obtain ⟨g, hg⟩ : ∃ g, g = W.heap.size := ⟨_, rfl⟩
      rw [← hg] at HB
      simp only [← hg]
      clear hg
      obtain ⟨g0, g1, g2, g3, g4, g5, g6, g7⟩ := box8 HB.out.x
      obtain ⟨d0, d1, d2, d3, d4⟩ := box5 HB.out.y
      go_wp2_with (first
        | (go_at_call 10; refine (cQ _).out.mono ?_; rintro e w2 ⟨rfl, hb⟩; replace HB := Lib.hid (HB.out.kept hb); clear hb cQ g0 g1 g2 g3 g4 g5 g6 g7 d0 d1 d2 d3 d4; obtain ⟨g0, g1, g2, g3, g4, g5, g6, g7⟩ := box8 HB.out.x; obtain ⟨d0, d1, d2, d3, d4⟩ := box5 HB.out.y)
        | (go_at_call 11; refine (cR _ HB.out.below).out.mono ?_; rintro e w3 ⟨rfl, hb⟩; replace HB := Lib.hid (HB.out.kept hb); clear hb cR g0 g1 g2 g3 g4 g5 g6 g7 d0 d1 d2 d3 d4; obtain ⟨g0, g1, g2, g3, g4, g5, g6, g7⟩ := box8 HB.out.x; obtain ⟨d0, d1, d2, d3, d4⟩ := box5 HB.out.y))
      exact bodyPost_ret (v := .tuple #[.slice none 0 0, .int .i64 3]) (by simp [results, Try.results7, go_sem]) rfl ⟨⟨none, 0, rfl, FrB.none_ _ _ _, Nat.le_refl _⟩, HB.out.below⟩
    | true =>
      obtain ⟨h9, rfl, rfl⟩ := HE.out.2.2 rfl rfl
      replace cW := cW h9
      clear HE h9
      generalize blockL c n = bl at *
      obtain ⟨bn9, hbn9⟩ : ∃ m, m = bl.length := ⟨_, rfl⟩
      rw [← hbn9] at cW ⊢
      clear hbn9
      obtain ⟨cB, cY, cF, cN, cU, cL, cKy, cV⟩ := c
      obtain ⟨lv, K, P, B, Q⟩ := n
      obtain ⟨kA, kc, pA, pc, bA, bc, qA, qc⟩ := a
      unfold cfCs ndCs at *
      simp only at *
      generalize K.length = kn at *
      generalize P.length = pn at *
      generalize B.length = bn at *
      generalize Q.length = qn at *
      go_enter Try.func7, Try.ntmps7
      go_upto_region 1 with fail
      have HB := Lib.hid (Bx2.new W (.cells #[.int .i64 cB, .int .i64 cY, .int .i64 cF, .int .i64 cN, .int .i64 cU, .int .i64 cL, .int .i64 cKy, .int .i64 cV] 23) (.cells #[.int .i64 lv, .slice kA kn kc, .slice pA pn pc, .slice bA bn bc, .slice qA qn qc] 29))
      generalize (W.alloc (.cells #[.int .i64 cB, .int .i64 cY, .int .i64 cF, .int .i64 cN, .int .i64 cU, .int .i64 cL, .int .i64 cKy, .int .i64 cV] 23)).alloc (.cells #[.int .i64 lv, .slice kA kn kc, .slice pA pn pc, .slice bA bn bc, .slice qA qn qc] 29) = w1 at *
      obtain ⟨g, hg⟩ : ∃ g, g = W.heap.size := ⟨_, rfl⟩
      rw [← hg] at HB
      simp only [← hg]
      clear hg
      obtain ⟨g0, g1, g2, g3, g4, g5, g6, g7⟩ := box8 HB.out.x
      obtain ⟨d0, d1, d2, d3, d4⟩ := box5 HB.out.y
      go_wp2_with (first
        | (go_at_call 10; refine (cQ _).out.mono ?_; rintro e w2 ⟨rfl, hb⟩; replace HB := Lib.hid (HB.out.kept hb); clear hb cQ g0 g1 g2 g3 g4 g5 g6 g7 d0 d1 d2 d3 d4; obtain ⟨g0, g1, g2, g3, g4, g5, g6, g7⟩ := box8 HB.out.x; obtain ⟨d0, d1, d2, d3, d4⟩ := box5 HB.out.y)
        | (go_at_call 11; refine (cR _ HB.out.below).out.mono ?_; rintro e w3 ⟨rfl, hb⟩; replace HB := Lib.hid (HB.out.kept hb); clear hb cR g0 g1 g2 g3 g4 g5 g6 g7 d0 d1 d2 d3 d4; obtain ⟨g0, g1, g2, g3, g4, g5, g6, g7⟩ := box8 HB.out.x; obtain ⟨d0, d1, d2, d3, d4⟩ := box5 HB.out.y)
        | (go_at_call 12; refine (cW _ HB.out.below).out.mono ?_; rintro e w4 ⟨⟨A, cap, rfl, hfr, hcap⟩, hb⟩; have HFR := Lib.hid hfr; have HCAP := Lib.hid hcap; replace HFR := Lib.hid (FrB.mono HFR.out HB.out.below.size); replace HB := Lib.hid (HB.out.kept hb); clear hb hfr hcap))
      exact bodyPost_ret (v := .tuple #[.slice A bn9 cap, .int .i64 0]) (by simp [results, Try.results7, go_sem]) rfl ⟨⟨A, cap, rfl, HFR.out, HCAP.out⟩, HB.out.below⟩
end No
end Go.Proofs.Ytgpbioljldkmaaa
