/-
  Contracts of layer bits: Has, Set, Clear.
-/
import Derived.Test.YtndbbpdggggenaaDoorBitsRow
namespace Go.Proofs.YtndbbpdggggenaaDoor
open Go.RowKit
namespace Bt
open Mem

set_option maxHeartbeats 1000000 in
theorem Has_out (g b : Nat) (i : Int) (tb : List Bool) (w : World) (h : RowAt w g b tb) (h1 : ¬ (0 ≤ i ∧ i < tb.length)) : Calls Tryd.prog 32 #[.pointer (some ⟨g, 0, none⟩), .int .i64 i] w fun e w' => e = .returned (.bool false) ∧ Below w.heap.size w w' := by
  have HR := Lib.hid h
  have cP := fun w h => Lib.hid (place_out g b tb i w h h1)
  clear h h1
  go_enter Tryd.func32, Tryd.ntmps32
  go_wp2_with fail
  refine Drift.wp_region_drift [] [(0,[]),(1,[]),(2,[]),(3,[]),(4,[]),(5,[]),(6,[]),(7,[]),(8,[]),(9,[]),(10,[]),(11,[]),(12,[]),(13,[]),(14,[]),(15,[]),(16,[]),(17,[]),(18,[])] [] [] (by kernel_rfl) (by kernel_rfl) (by simp) ?_
  simp only [Drift.pick, Drift.opsAt, List.getElem?_toArray, List.getElem?_cons_zero, List.getElem?_cons_succ, List.cons_append, List.nil_append, List.filterMap_nil]
  repeat (refine Drift.walk_step (fun K hK => ?_); go_simp; first | (refine hK _ ?_; clear hK K) | (apply Exists.intro; refine ⟨fun q => ?_, hK _ ?_⟩; (first | (go_at_call 33; exact (cP _ (HR.out.into q.into (by simp) (by simp))).out.mono fun e w' ⟨he, hw⟩ => ⟨he, by subst hw; exact Below.refl _ _⟩)); clear hK K))
  refine Drift.walk_nil ?_
  intro w2 hb2 _
  have HB2 := Lib.hid hb2
  clear hb2
  simp only [List.length_cons, List.length_nil, List.drop_succ_cons, List.drop_nil, Nat.zero_add, Nat.reduceAdd]
  go_wp2_with fail
  go_ret
  exact ⟨rfl, HB2.out⟩
set_option maxHeartbeats 1000000 in
theorem Set_out (g b : Nat) (i : Int) (tb : List Bool) (w : World) (h : RowAt w g b tb) (h1 : ¬ (0 ≤ i ∧ i < tb.length)) : Calls Tryd.prog 24 #[.pointer (some ⟨g, 0, none⟩), .int .i64 i] w fun e w' => e = .returned (.int .i64 4) ∧ w = w' := by
  have HR := Lib.hid h
  have cP := fun w h => Lib.hid (place_out g b tb i w h h1)
  clear h h1
  go_enter Tryd.func24, Tryd.ntmps24
  go_wp2_with (go_at_call 33; refine (cP _ HR.out).out.mono ?_; rintro e w' ⟨rfl, rfl⟩)
  go_ret
  exact ⟨rfl, rfl⟩
set_option maxHeartbeats 1000000 in
theorem Set_twice (g b i : Nat) (tb : List Bool) (w : World) (h : RowAt w g b tb) (h1 : i < tb.length) (h2 : tb.getD i false = true) : Calls Tryd.prog 24 #[.pointer (some ⟨g, 0, none⟩), .int .i64 (i : Int)] w fun e w' => e = .returned (.int .i64 10) ∧ Below w.heap.size w w' := by
  have HR := Lib.hid h
  have cP := fun w h => Lib.hid (place_in g b tb i w h (by omega) (by omega))
  have cH := fun w h => Lib.hid (Has_in g b i tb w h h1)
  rw [h2] at cH
  clear h h1 h2
  go_enter Tryd.func24, Tryd.ntmps24
  go_wp2_with (first | (go_at_call 33; refine (cP _ HR.out).out.mono ?_; rintro e w' ⟨rfl, rfl⟩) | (go_at_call 32; refine (cH _ HR.out).out.mono ?_; rintro e w' ⟨rfl, hb⟩; have HB := Lib.hid hb; clear hb))
  go_ret
  exact ⟨rfl, HB.out⟩
set_option maxHeartbeats 1000000 in
theorem Set_ok (g b i : Nat) (tb : List Bool) (w : World) (h : RowAt w g b tb) (h1 : i < tb.length) (h2 : tb.getD i false = false) : Calls Tryd.prog 24 #[.pointer (some ⟨g, 0, none⟩), .int .i64 (i : Int)] w fun e w' => e = .returned (.int .i64 0) ∧ RowAt w' g b (tb.set i true) ∧ Flow.Into [b] w w' := by
  have HR := Lib.hid h
  have hi := h.lt
  have cP := fun w h => Lib.hid (place_in g b tb i w h (by omega) (by omega))
  have cH := fun w h => Lib.hid (Has_in g b i tb w h h1)
  have cB := fun w => Lib.hid (bit_any i w (by omega))
  rw [h2] at cH
  clear h2
  have HL := Lib.hid h1
  clear h h1
  go_enter Tryd.func24, Tryd.ntmps24
  go_wp2_with (first | (go_at_call 33; refine (cP _ HR.out).out.mono ?_; rintro e w' ⟨rfl, rfl⟩) | (go_at_call 32; refine (cH _ HR.out).out.mono ?_; rintro e w1 ⟨rfl, hb⟩; have HB := Lib.hid hb; clear hb))
  have HR1 := HR.out.kept HB.out
  obtain ⟨c, ws, hw⟩ := HR1
  obtain ⟨j, x, p, hj, hq, hwj, d2, hp, -, -, k3, -, k5, -⟩ := hw.look HL.out
  rw [← hp] at cB
  obtain ⟨d0, d1⟩ := hw.cells
  obtain ⟨m, hm⟩ : ∃ m, m = ws.length := ⟨_, rfl⟩
  rw [← hm] at d1 hj
  have HW := Lib.hid hw
  have HK := Lib.hid k5
  clear hw hm hp k5 cP cH
  have e1 := fun q : Drift.Tide [] w1 [] => Drift.Tide.cell d1 (by simp) q
  have e2 := fun q : Drift.Tide [] w1 [] => Drift.Tide.cell d2 (by simp) q
  clear d0 d1
  have D2 := Lib.hid d2
  clear d2
  refine Drift.wp_region_drift [] [(0,[]),(1,[]),(2,[]),(3,[]),(4,[]),(5,[]),(6,[]),(7,[]),(8,[]),(9,[]),(10,[])] [] [] (by kernel_rfl) (by kernel_rfl) (by simp) ?_
  simp only [Drift.pick, Drift.opsAt, List.getElem?_toArray, List.getElem?_cons_zero, List.getElem?_cons_succ, List.cons_append, List.nil_append, List.filterMap_nil]
  repeat (refine Drift.walk_step (fun K hK => ?_); go_simp; first | (refine hK _ ?_; clear hK K) | (apply Exists.intro; refine ⟨fun q => ?_, hK _ ?_⟩; (first | (go_at_call 34; exact (cB _).out.mono fun e w' ⟨he, hw⟩ => ⟨he, by subst hw; exact Below.refl _ _⟩)); clear hK K))
  refine Drift.walk_nil ?_
  intro w2 hb2 _
  have HB2 := Lib.hid hb2
  have hf := (HW.out.kept hb2).free j
  have hc2 := (Below.cell hb2 (p := ⟨b, j, none⟩) HW.out.ow.lt).trans D2.out
  have HS := Lib.hid ((HW.out.kept hb2).store HK.out (by simp))
  clear hb2
  simp only [List.length_cons, List.length_nil, List.drop_succ_cons, Nat.zero_add, Nat.reduceAdd]
  go_wp2_with fail
  go_ret
  exact ⟨rfl, HS.out.1, (Flow.Into.of_below HB.out).trans ((Flow.Into.of_below HB2.out).trans HS.out.2)⟩
set_option maxHeartbeats 1000000 in
theorem Clear_out (g b : Nat) (i : Int) (tb : List Bool) (w : World) (h : RowAt w g b tb) (h1 : ¬ (0 ≤ i ∧ i < tb.length)) : Calls Tryd.prog 30 #[.pointer (some ⟨g, 0, none⟩), .int .i64 i] w fun e w' => e = .returned (.int .i64 4) ∧ w = w' := by
  have HR := Lib.hid h
  have cP := fun w h => Lib.hid (place_out g b tb i w h h1)
  clear h h1
  go_enter Tryd.func30, Tryd.ntmps30
  go_wp2_with (go_at_call 33; refine (cP _ HR.out).out.mono ?_; rintro e w' ⟨rfl, rfl⟩)
  go_ret
  exact ⟨rfl, rfl⟩
set_option maxHeartbeats 1000000 in
theorem Clear_twice (g b i : Nat) (tb : List Bool) (w : World) (h : RowAt w g b tb) (h1 : i < tb.length) (h2 : tb.getD i false = false) : Calls Tryd.prog 30 #[.pointer (some ⟨g, 0, none⟩), .int .i64 (i : Int)] w fun e w' => e = .returned (.int .i64 9) ∧ Below w.heap.size w w' := by
  have HR := Lib.hid h
  have cP := fun w h => Lib.hid (place_in g b tb i w h (by omega) (by omega))
  have cH := fun w h => Lib.hid (Has_in g b i tb w h h1)
  rw [h2] at cH
  clear h h1 h2
  go_enter Tryd.func30, Tryd.ntmps30
  go_wp2_with (first | (go_at_call 33; refine (cP _ HR.out).out.mono ?_; rintro e w' ⟨rfl, rfl⟩) | (go_at_call 32; refine (cH _ HR.out).out.mono ?_; rintro e w' ⟨rfl, hb⟩; have HB := Lib.hid hb; clear hb))
  go_ret
  exact ⟨rfl, HB.out⟩
set_option maxHeartbeats 1000000 in
theorem Clear_ok (g b i : Nat) (tb : List Bool) (w : World) (h : RowAt w g b tb) (h1 : i < tb.length) (h2 : tb.getD i false = true) : Calls Tryd.prog 30 #[.pointer (some ⟨g, 0, none⟩), .int .i64 (i : Int)] w fun e w' => e = .returned (.int .i64 0) ∧ RowAt w' g b (tb.set i false) ∧ Flow.Into [b] w w' := by
  have HR := Lib.hid h
  have hi := h.lt
  have cP := fun w h => Lib.hid (place_in g b tb i w h (by omega) (by omega))
  have cH := fun w h => Lib.hid (Has_in g b i tb w h h1)
  have cB := fun w => Lib.hid (bit_any i w (by omega))
  rw [h2] at cH
  clear h2
  have HL := Lib.hid h1
  clear h h1
  go_enter Tryd.func30, Tryd.ntmps30
  go_wp2_with (first | (go_at_call 33; refine (cP _ HR.out).out.mono ?_; rintro e w' ⟨rfl, rfl⟩) | (go_at_call 32; refine (cH _ HR.out).out.mono ?_; rintro e w1 ⟨rfl, hb⟩; have HB := Lib.hid hb; clear hb))
  have HR1 := HR.out.kept HB.out
  obtain ⟨c, ws, hw⟩ := HR1
  obtain ⟨j, x, p, hj, hq, hwj, d2, hp, -, -, -, k3, -, k5⟩ := hw.look HL.out
  rw [← hp] at cB
  obtain ⟨d0, d1⟩ := hw.cells
  obtain ⟨m, hm⟩ : ∃ m, m = ws.length := ⟨_, rfl⟩
  rw [← hm] at d1 hj
  have HW := Lib.hid hw
  have HK := Lib.hid k5
  clear hw hm hp k5 cP cH
  have e1 := fun q : Drift.Tide [] w1 [] => Drift.Tide.cell d1 (by simp) q
  have e2 := fun q : Drift.Tide [] w1 [] => Drift.Tide.cell d2 (by simp) q
  clear d0 d1
  have D2 := Lib.hid d2
  clear d2
  refine Drift.wp_region_drift [] [(0,[]),(1,[]),(2,[]),(3,[]),(4,[]),(5,[]),(6,[]),(7,[]),(8,[]),(9,[]),(10,[])] [] [] (by kernel_rfl) (by kernel_rfl) (by simp) ?_
  simp only [Drift.pick, Drift.opsAt, List.getElem?_toArray, List.getElem?_cons_zero, List.getElem?_cons_succ, List.cons_append, List.nil_append, List.filterMap_nil]
  repeat (refine Drift.walk_step (fun K hK => ?_); go_simp; first | (refine hK _ ?_; clear hK K) | (apply Exists.intro; refine ⟨fun q => ?_, hK _ ?_⟩; (first | (go_at_call 34; exact (cB _).out.mono fun e w' ⟨he, hw⟩ => ⟨he, by subst hw; exact Below.refl _ _⟩)); clear hK K))
  refine Drift.walk_nil ?_
  intro w2 hb2 _
  have HB2 := Lib.hid hb2
  have hf := (HW.out.kept hb2).free j
  have hc2 := (Below.cell hb2 (p := ⟨b, j, none⟩) HW.out.ow.lt).trans D2.out
  have HS := Lib.hid ((HW.out.kept hb2).store HK.out (by simp))
  clear hb2
  simp only [List.length_cons, List.length_nil, List.drop_succ_cons, Nat.zero_add, Nat.reduceAdd]
  go_wp2_with fail
  go_ret
  exact ⟨rfl, HS.out.1, (Flow.Into.of_below HB.out).trans ((Flow.Into.of_below HB2.out).trans HS.out.2)⟩
theorem Has_any (g b : Nat) (i : Int) (tb : List Bool) (w : World) (h : RowAt w g b tb) : Calls Tryd.prog 32 #[.pointer (some ⟨g, 0, none⟩), .int .i64 i] w fun e w' => e = .returned (.bool (hasB tb i)) ∧ Below w.heap.size w w' := by
  cases hi : inB tb i with
  | true =>
    obtain ⟨k, rfl, hk⟩ := in_nat hi
    rw [has_nat]
    exact Has_in g b k tb w h hk
  | false =>
    rw [has_out hi]
    exact Has_out g b i tb w h (in_not hi)
theorem Set_any (g b : Nat) (i : Int) (tb : List Bool) (w : World) (h : RowAt w g b tb) : Calls Tryd.prog 24 #[.pointer (some ⟨g, 0, none⟩), .int .i64 i] w fun e w' => e = .returned (.int .i64 (setE tb i)) ∧ RowAt w' g b (setT tb i) ∧ Flow.Into [b] w w' := by
  cases hi : inB tb i with
  | true =>
    obtain ⟨k, rfl, hk⟩ := in_nat hi
    cases hv : tb.getD k false with
    | true =>
      have e1 : setE tb k = 10 := by unfold setE; rw [hi, has_nat, hv]; rfl
      have e2 : setT tb k = tb := by unfold setT; rw [hi]; exact set_same hk hv
      rw [e1, e2]
      exact (Set_twice g b k tb w h hk hv).mono fun e w' ⟨he, hb⟩ => ⟨he, h.kept hb, Flow.Into.of_below hb⟩
    | false =>
      have e1 : setE tb k = 0 := by unfold setE; rw [hi, has_nat, hv]; rfl
      have e2 : setT tb k = tb.set k true := by unfold setT; rw [hi]; rfl
      rw [e1, e2]
      exact Set_ok g b k tb w h hk hv
  | false =>
    have e1 : setE tb i = 4 := by unfold setE; rw [hi]; rfl
    have e2 : setT tb i = tb := by unfold setT; rw [hi]; rfl
    rw [e1, e2]
    exact (Set_out g b i tb w h (in_not hi)).mono fun e w' ⟨he, hb⟩ => ⟨he, hb ▸ h, hb ▸ Flow.Into.refl _ _⟩
theorem Clear_any (g b : Nat) (i : Int) (tb : List Bool) (w : World) (h : RowAt w g b tb) : Calls Tryd.prog 30 #[.pointer (some ⟨g, 0, none⟩), .int .i64 i] w fun e w' => e = .returned (.int .i64 (clrE tb i)) ∧ RowAt w' g b (clrT tb i) ∧ Flow.Into [b] w w' := by
  cases hi : inB tb i with
  | true =>
    obtain ⟨k, rfl, hk⟩ := in_nat hi
    cases hv : tb.getD k false with
    | false =>
      have e1 : clrE tb k = 9 := by unfold clrE; rw [hi, has_nat, hv]; rfl
      have e2 : clrT tb k = tb := by unfold clrT; rw [hi]; exact set_same hk hv
      rw [e1, e2]
      exact (Clear_twice g b k tb w h hk hv).mono fun e w' ⟨he, hb⟩ => ⟨he, h.kept hb, Flow.Into.of_below hb⟩
    | true =>
      have e1 : clrE tb k = 0 := by unfold clrE; rw [hi, has_nat, hv]; rfl
      have e2 : clrT tb k = tb.set k false := by unfold clrT; rw [hi]; rfl
      rw [e1, e2]
      exact Clear_ok g b k tb w h hk hv
  | false =>
    have e1 : clrE tb i = 4 := by unfold clrE; rw [hi]; rfl
    have e2 : clrT tb i = tb := by unfold clrT; rw [hi]; rfl
    rw [e1, e2]
    exact (Clear_out g b i tb w h (in_not hi)).mono fun e w' ⟨he, hb⟩ => ⟨he, hb ▸ h, hb ▸ Flow.Into.refl _ _⟩
end Bt
end Go.Proofs.YtndbbpdggggenaaDoor
