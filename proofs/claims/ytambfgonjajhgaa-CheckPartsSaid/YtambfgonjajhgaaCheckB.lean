/-
  CheckParts, walked.
-/
import Derived.Test.YtambfgonjajhgaaCheckSum
import Derived.Test.YtambfgonjajhgaaDrift
namespace Go.Proofs.Ytambfgonjajhgaa
open Go.RowKit
namespace Ck
open Mem

/-- the sum of one text, that of two, laid in a block -/
theorem Sum_one (W : World) (g : Nat) (A : Option Addr) (c : Nat) (l : List UInt8) (U : TypeId) (fl : Nat × Nat) (h : W.heap[g]? = some (.cells #[.slice A l.length c] U fl)) (hb : BL W A l) (hl : l.length ≤ c) (hs : l.length ≤ 140737488355328) :
    Calls Try.prog 9 #[.slice (some ⟨g, 0, none⟩) 1 1] W fun e w' => e = .returned (.int .u32 (more 1 l : Int)) ∧ Below W.heap.size W w' := by
  have := Sum_any (some ⟨g, 0, none⟩) 1 [l] W (LL.one h hb hl) (by simp) (by simpa using hs)
  rw [sum_one] at this
  exact this.mono fun e w' ⟨h1, h2⟩ => ⟨h1, by rw [← h2]; exact Below.refl _ _⟩
theorem Sum_two (W : World) (g : Nat) (A A' : Option Addr) (c c' : Nat) (l l' : List UInt8) (U : TypeId) (fl : Nat × Nat) (h : W.heap[g]? = some (.cells #[.slice A l.length c, .slice A' l'.length c'] U fl)) (hb : BL W A l) (hl : l.length ≤ c) (hs : l.length ≤ 140737488355328)
    (hb' : BL W A' l') (hl' : l'.length ≤ c') (hs' : l'.length ≤ 140737488355328) :
    Calls Try.prog 9 #[.slice (some ⟨g, 0, none⟩) 2 2] W fun e w' => e = .returned (.int .u32 (more 1 (l ++ l') : Int)) ∧ Below W.heap.size W w' := by
  have := Sum_any (some ⟨g, 0, none⟩) 2 [l, l'] W (LL.two h hb hl hb' hl') (by simp) (by simpa using ⟨hs, hs'⟩)
  rw [sum_flat] at this
  simp only [List.flatten_cons, List.flatten_nil, List.append_nil] at this
  exact this.mono fun e w' ⟨h1, h2⟩ => ⟨h1, by rw [← h2]; exact Below.refl _ _⟩
theorem bl_into {w w' : World} {p : Option Addr} {l : List UInt8} (h : BL w p l) (hi : Flow.Into [] w w') : BL w' p l := h.below hi.below

set_option maxHeartbeats 4000000 in
set_option maxRecDepth 100000 in
theorem CheckParts_walk (p : Option Addr) (c : Nat) (l : List UInt8) (cut : Nat) (w : World) (h : BL w p l) (hc : l.length ≤ c) (hm : l.length ≤ maxLen) (hcut : cut < 65536) :
    Calls Try.prog 4 #[.slice p l.length c, .int .u16 (cut : Int)] w fun e w' => e = .returned (.bool true) ∧ Below w.heap.size w w' := by
  have cA := fun w => Lib.hid (awake_any w)
  obtain ⟨n, hn⟩ : ∃ n, n = l.length := ⟨_, rfl⟩
  by_cases hx : 20000 < n
  · rw [← hn] at hm ⊢
    unfold maxLen at hm
    clear hn h hc
    go_enter Try.func4, Try.ntmps4
    go_wp2_with (go_at_call 7; refine (cA _).out.mono ?_; rintro e w' ⟨rfl, hb⟩; have HB := Lib.hid hb; clear hb)
    go_ret
    exact ⟨rfl, HB.out⟩
  · obtain ⟨k, hk⟩ : ∃ k, k = cut % (n + 1) := ⟨_, rfl⟩
    have hkn : k ≤ n := by have := Nat.mod_lt cut (show 0 < n + 1 by omega); omega
    have hk2 : (cut : Int) % ((n : Int) + 1) = (k : Int) := by rw [hk]; simp
    have hk1 : (cut : Int).tmod ((n : Int) + 1) = (k : Int) := by rw [Int.tmod_eq_emod_of_nonneg (by omega)]; exact hk2
    have ht1 : (l.take k).length = k := by simp; omega
    have ht2 : (l.drop k).length = n - k := by simp; omega
    obtain ⟨i0, hi0, _, hsz, _⟩ := info_parts u8info
    have s1 := fun w => run_upTo (P := Try.prog) (t := 24) (e := 5) Try.underlying24 hi0 p n c k (by omega) w
    have s2 := fun w => run_cut (P := Try.prog) (t := 24) (e := 5) Try.underlying24 hi0 hsz p n c k hkn w
    have cM := fun w h => Lib.hid (More_any (more 1 (l.take k)) (cutA p c k) (c - k) (l.drop k) w h (by rw [ht2]; omega) (more_lt _ _))
    have cS1 := fun W g U fl h hb => Lib.hid (Sum_one W g p c (l.take k) U fl h hb (by rw [ht1]; omega) (by rw [ht1]; omega))
    have cS2 := fun W g U fl h hb => Lib.hid (Sum_one W g p c l U fl h hb hc (by omega))
    have cS3 := fun W g U fl h hb hb' => Lib.hid (Sum_two W g p (cutA p c k) c (c - k) (l.take k) (l.drop k) U fl h hb (by rw [ht1]; omega) (by rw [ht1]; omega) hb' (by rw [ht2]; omega) (by rw [ht2]; omega))
    rw [more_more, List.take_append_drop, ht2] at cM
    rw [ht1] at cS1
    rw [List.take_append_drop, ht1, ht2] at cS3
    rw [← hn] at cS2 ⊢
    have HB := Lib.hid h
    have HT := Lib.hid (h.take k)
    have HD : Hid (BL w (cutA p c k) (l.drop k)) := Lib.hid (h.cut hc)
    have hw64 : wrap64 (cut : Int) = (cut : Int) := by unfold wrap64; omega
    clear hk h hc hm hcut ht1 ht2 hn hi0 hsz
    obtain ⟨T, hT⟩ : ∃ T, T = more 1 l := ⟨_, rfl⟩
    obtain ⟨T1, hT1⟩ : ∃ T1, T1 = more 1 (l.take k) := ⟨_, rfl⟩
    rw [← hT1] at cM cS1
    rw [← hT] at cM cS2 cS3
    clear hT hT1
    go_enter Try.func4, Try.ntmps4
    go_wp2_with fail
    refine Drift.wp_region_drift [] [(0,[]),(1,[]),(2,[]),(5,[]),(6,[]),(7,[]),(9,[]),(3,[10]),(4,[]),(8,[]),(10,[]),(11,[]),(12,[]),(13,[]),(14,[]),(15,[]),(16,[]),(17,[]),(18,[]),(19,[]),(22,[]),(20,[23]),(21,[]),(23,[]),(24,[]),(25,[]),(26,[]),(27,[]),(28,[]),(29,[]),(30,[])] [] [3, 10, 20, 23] (by kernel_rfl) (by kernel_rfl) (by simp) ?_
    simp only [Drift.pick, Drift.opsAt, List.getElem?_toArray, List.getElem?_cons_zero, List.getElem?_cons_succ, List.cons_append, List.nil_append, List.filterMap_cons, List.filterMap_nil]
    repeat (refine Drift.walk_step (fun K hK => ?_); go_simp; (refine hK _ ?_; clear hK K))
    refine Drift.walk_make rfl (Drift.mkwalk_one rfl (fun b => .slice (some ⟨b, 0, none⟩) 1 1) (.cells #[.slice p n c] 24) (fun W => by go_simp) fun b hb => Drift.mkwalk_nil) (fun b => .slice (some ⟨b, 0, none⟩) 1 1) (.cells #[.slice p k c] 24) (fun W => by go_simp) (fun b1 hb1 hT1 => ?_)
    clear hb1
    repeat (refine Drift.walk_step (fun K hK => ?_); go_simp; first | (refine hK _ ?_; clear hK K) | (apply Exists.intro; refine ⟨fun q => ?_, hK _ ?_⟩; (first | (go_at_call 9; exact (cS1 _ _ _ _ (q.has (b1, .cells #[.slice p k c] 24) (by simp)) (bl_into HT.out q.into)).out) | (go_at_call 11; exact (cM _ (bl_into HD.out q.into)).out.mono fun e w' ⟨he, hw⟩ => ⟨he, by subst hw; exact Below.refl _ _⟩)); clear hK K))
    refine Drift.walk_make rfl Drift.mkwalk_nil (fun b => .slice (some ⟨b, 0, none⟩) 1 1) (.cells #[.slice p n c] 24) (fun W => by go_simp) (fun b2 hb2 hT2 => ?_)
    clear hb2 hT1
    repeat (refine Drift.walk_step (fun K hK => ?_); go_simp; first | (refine hK _ ?_; clear hK K) | (apply Exists.intro; refine ⟨fun q => ?_, hK _ ?_⟩; (go_at_call 9; exact (cS2 _ _ _ _ (q.has (b2, .cells #[.slice p n c] 24) (by simp)) (bl_into HB.out q.into)).out); clear hK K))
    refine Drift.walk_make rfl (Drift.mkwalk_one rfl (fun b => .slice (some ⟨b, 0, none⟩) 1 1) (.cells #[.slice p n c] 24) (fun W => by go_simp) fun b hb => Drift.mkwalk_nil) (fun b => .slice (some ⟨b, 0, none⟩) 2 2) (.cells #[.slice p k c, .slice (cutA p c k) (n - k) (c - k)] 24) (fun W => by go_simp) (fun b3 hb3 hT3 => ?_)
    clear hb3 hT2
    repeat (refine Drift.walk_step (fun K hK => ?_); go_simp; first | (refine hK _ ?_; clear hK K) | (apply Exists.intro; refine ⟨fun q => ?_, hK _ ?_⟩; (go_at_call 9; exact (cS3 _ _ _ _ (q.has (b3, .cells #[.slice p k c, .slice (cutA p c k) (n - k) (c - k)] 24) (by simp)) (bl_into HT.out q.into) (bl_into HD.out q.into)).out); clear hK K))
    refine Drift.walk_make rfl Drift.mkwalk_nil (fun b => .slice (some ⟨b, 0, none⟩) 1 1) (.cells #[.slice p n c] 24) (fun W => by go_simp) (fun b4 hb4 hT4 => ?_)
    clear hb4 hT3
    repeat (refine Drift.walk_step (fun K hK => ?_); go_simp; first | (refine hK _ ?_; clear hK K) | (apply Exists.intro; refine ⟨fun q => ?_, hK _ ?_⟩; (first | (go_at_call 9; exact (cS2 _ _ _ _ (q.has (b4, .cells #[.slice p n c] 24) (by simp)) (bl_into HB.out q.into)).out) | (go_at_call 7; exact (cA _).out)); clear hK K))
    refine Drift.walk_nil ?_
    intro w2 hb2 _
    have HB2 := Lib.hid hb2
    clear hb2
    simp only [List.length_cons, List.length_nil, List.drop_succ_cons, List.drop_nil, Nat.zero_add, Nat.reduceAdd]
    go_wp2_with fail
    go_ret
    exact ⟨rfl, HB2.out⟩
end Ck
end Go.Proofs.Ytambfgonjajhgaa
