/-
  HeadWrites. Written by scripts/headlaws.py.
-/
import Derived.Test.YteefkhgmcknbaaaHeadLaw
namespace Go.Proofs.Yteefkhgmcknbaaa
open Go.RowKit
namespace No
open Mem Bu
open Wd (be val be_length val_be)
set_option maxRecDepth 100000 in
set_option maxHeartbeats 8000000 in
theorem HeadWrites_walk (cB cY cF cN cU cL cKy cV : Int) (r : Nat) (t : Int) (W : World) (hr : r < 4294967296) : Calls Try.prog 3 #[.agg #[.int .i64 cB, .int .i64 cY, .int .i64 cF, .int .i64 cN, .int .i64 cU, .int .i64 cL, .int .i64 cKy, .int .i64 cV, .int .u32 (r : Int), .int .i64 t]] W fun e w' => e = .returned (.bool true) ∧ Below W.heap.size W w' := by
  obtain ⟨x, hx⟩ := bool_of (HdOk ⟨⟨cB, cY, cF, cN, cU, cL, cKy, cV⟩, r, t⟩)
  have cRR : ∀ w, Hid (Calls Try.prog 7 #[.agg #[.int .i64 cB, .int .i64 cY, .int .i64 cF, .int .i64 cN, .int .i64 cU, .int .i64 cL, .int .i64 cKy, .int .i64 cV, .int .u32 (r : Int), .int .i64 t]] w fun e w' => e = .returned (.bool x) ∧ Below w.heap.size w w') := fun w => RHRight_any ⟨⟨cB, cY, cF, cN, cU, cL, cKy, cV⟩, r, t⟩ hr w x hx
  have cHR : ∀ w, Hid (Calls Try.prog 9 #[.agg #[.int .i64 cB, .int .i64 cY, .int .i64 cF, .int .i64 cN, .int .i64 cU, .int .i64 cL, .int .i64 cKy, .int .i64 cV, .int .u32 (r : Int), .int .i64 t]] w fun e w' => e = .returned (.bool x) ∧ Below w.heap.size w w') := fun w => HRight_c ⟨⟨cB, cY, cF, cN, cU, cL, cKy, cV⟩, r, t⟩ hr w x hx
  have cAs : ∀ w, Hid (Calls Try.prog 8 #[.agg #[.int .i64 cB, .int .i64 cY, .int .i64 cF, .int .i64 cN, .int .i64 cU, .int .i64 cL, .int .i64 cKy, .int .i64 cV, .int .u32 (r : Int), .int .i64 t]] w fun e w' => e = .returned (.agg #[.int .i64 cB, .int .i64 cY, .int .i64 cF, .int .i64 cN, .int .i64 cU, .int .i64 cL, .int .i64 cKy, .int .i64 cV, .int .u32 (r : Int), .int .i64 t]) ∧ Below w.heap.size w w') := fun w => As_any ⟨⟨cB, cY, cF, cN, cU, cL, cKy, cV⟩, r, t⟩ w
  have cA := fun w => Lib.hid (HAwake_any w)
  cases x with
  | false =>
    have hno : ¬ HdOk ⟨⟨cB, cY, cF, cN, cU, cL, cKy, cV⟩, r, t⟩ := fun h => by cases hx.2 h
    have cE : ∀ w, Hid (Calls Try.prog 6 #[.agg #[.int .i64 cB, .int .i64 cY, .int .i64 cF, .int .i64 cN, .int .i64 cU, .int .i64 cL, .int .i64 cKy, .int .i64 cV, .int .u32 (r : Int), .int .i64 t]] w fun e w' => (∃ A cap, e = .returned (.tuple #[.slice A 0 cap, .int .i64 2])) ∧ Below w.heap.size w w') := fun w => (HEncode_c ⟨⟨cB, cY, cF, cN, cU, cL, cKy, cV⟩, r, t⟩ hr w (.inl ⟨hno, rfl, rfl⟩)).mono fun e w' ⟨⟨A, cap, he, _, _⟩, hb⟩ => ⟨⟨A, cap, he⟩, hb⟩
    clear hx hno hr
    go_enter Try.func3, Try.ntmps3
    go_upto_region 1 with fail
    have hx := heap_alloc_new W (.cells #[.int .i64 cB, .int .i64 cY, .int .i64 cF, .int .i64 cN, .int .i64 cU, .int .i64 cL, .int .i64 cKy, .int .i64 cV, .int .u32 (r : Int), .int .i64 t] 26)
    have hb0 : Below W.heap.size W (W.alloc (.cells #[.int .i64 cB, .int .i64 cY, .int .i64 cF, .int .i64 cN, .int .i64 cU, .int .i64 cL, .int .i64 cKy, .int .i64 cV, .int .u32 (r : Int), .int .i64 t] 26)) := (Below.refl _ _).alloc (Nat.le_refl _) _
    generalize W.alloc (.cells #[.int .i64 cB, .int .i64 cY, .int .i64 cF, .int .i64 cN, .int .i64 cU, .int .i64 cL, .int .i64 cKy, .int .i64 cV, .int .u32 (r : Int), .int .i64 t] 26) = w1 at *
    obtain ⟨g, hg⟩ : ∃ g, g = W.heap.size := ⟨_, rfl⟩
    rw [← hg] at hx
    simp only [← hg]
    have HX := Lib.hid hx
    have HB := Lib.hid hb0
    clear hx hb0 hg
    obtain ⟨d0, d1, d2, d3, d4, d5, d6, d7, d8, d9⟩ := box10 HX.out
    go_upto_region 2 with (go_at_call 6; refine (cE _).out.mono ?_; rintro e w2 ⟨⟨A, cap, rfl⟩, hb⟩; replace HX := Lib.hid (kept3 HX.out hb); replace HB := Lib.hid (HB.out.trans (hb.mono HB.out.size)); clear hb cE d0 d1 d2 d3 d4 d5 d6 d7 d8 d9; obtain ⟨d0, d1, d2, d3, d4, d5, d6, d7, d8, d9⟩ := box10 HX.out)
    go_upto_region 3 with (first
      | (go_at_call 8; refine (cAs _).out.mono ?_; rintro e w3 ⟨rfl, hb⟩; replace HX := Lib.hid (kept3 HX.out hb); replace HB := Lib.hid (HB.out.trans (hb.mono HB.out.size)); clear hb cAs d0 d1 d2 d3 d4 d5 d6 d7 d8 d9; obtain ⟨d0, d1, d2, d3, d4, d5, d6, d7, d8, d9⟩ := box10 HX.out)
      | (go_at_call 7; refine (cRR _).out.mono ?_; rintro e w4 ⟨rfl, hb⟩; replace HX := Lib.hid (kept3 HX.out hb); replace HB := Lib.hid (HB.out.trans (hb.mono HB.out.size)); clear hb cRR d0 d1 d2 d3 d4 d5 d6 d7 d8 d9; obtain ⟨d0, d1, d2, d3, d4, d5, d6, d7, d8, d9⟩ := box10 HX.out))
    go_wp2_with (first
      | (go_at_call 9; refine (cHR _).out.mono ?_; rintro e w5 ⟨rfl, hb⟩; replace HX := Lib.hid (kept3 HX.out hb); replace HB := Lib.hid (HB.out.trans (hb.mono HB.out.size)); clear hb cHR d0 d1 d2 d3 d4 d5 d6 d7 d8 d9)
      | (go_at_call 10; refine (cA _).out.mono ?_; rintro e w6 ⟨rfl, hb⟩; replace HX := Lib.hid (kept3 HX.out hb); replace HB := Lib.hid (HB.out.trans (hb.mono HB.out.size)); clear hb ))
    go_ret
    exact ⟨rfl, HB.out⟩
  | true =>
    have hok := hx.1 rfl
    have hby := hd_bytes hok
    have hlen := head_len hok
    have cB' : ∀ w, Hid (Calls Try.prog 11 #[.agg #[.int .i64 cB, .int .i64 cY, .int .i64 cF, .int .i64 cN, .int .i64 cU, .int .i64 cL, .int .i64 cKy, .int .i64 cV, .int .u32 (r : Int), .int .i64 t]] w fun e w' => e = .returned (.string (strOf (headL ⟨⟨cB, cY, cF, cN, cU, cL, cKy, cV⟩, r, t⟩))) ∧ Below w.heap.size w w') := fun w => RHBlock_any ⟨⟨cB, cY, cF, cN, cU, cL, cKy, cV⟩, r, t⟩ hok w
    obtain ⟨s, hs⟩ : ∃ s, s = headL ⟨⟨cB, cY, cF, cN, cU, cL, cKy, cV⟩, r, t⟩ := ⟨_, rfl⟩
    have cE : ∀ w, Hid (Calls Try.prog 6 #[.agg #[.int .i64 cB, .int .i64 cY, .int .i64 cF, .int .i64 cN, .int .i64 cU, .int .i64 cL, .int .i64 cKy, .int .i64 cV, .int .u32 (r : Int), .int .i64 t]] w fun e w' => (∃ A cap, e = .returned (.tuple #[.slice A s.length cap, .int .i64 0]) ∧ BL w' A s) ∧ Below w.heap.size w w') := fun w => by
      rw [hs]
      exact (HEncode_c ⟨⟨cB, cY, cF, cN, cU, cL, cKy, cV⟩, r, t⟩ hr w (.inr ⟨hok, rfl, rfl⟩)).mono fun e w' ⟨⟨A, cap, he, hf, _⟩, hb⟩ => ⟨⟨A, cap, he, hf.bl⟩, hb⟩
    rw [← hs] at cB'
    obtain ⟨sl, hsl⟩ : ∃ m, m = s.length := ⟨_, rfl⟩
    rw [← hsl] at cE
    have HSL := Lib.hid hsl
    clear hx hr hok hby hlen hs hsl
    go_enter Try.func3, Try.ntmps3
    go_upto_region 1 with fail
    have hx := heap_alloc_new W (.cells #[.int .i64 cB, .int .i64 cY, .int .i64 cF, .int .i64 cN, .int .i64 cU, .int .i64 cL, .int .i64 cKy, .int .i64 cV, .int .u32 (r : Int), .int .i64 t] 26)
    have hb0 : Below W.heap.size W (W.alloc (.cells #[.int .i64 cB, .int .i64 cY, .int .i64 cF, .int .i64 cN, .int .i64 cU, .int .i64 cL, .int .i64 cKy, .int .i64 cV, .int .u32 (r : Int), .int .i64 t] 26)) := (Below.refl _ _).alloc (Nat.le_refl _) _
    generalize W.alloc (.cells #[.int .i64 cB, .int .i64 cY, .int .i64 cF, .int .i64 cN, .int .i64 cU, .int .i64 cL, .int .i64 cKy, .int .i64 cV, .int .u32 (r : Int), .int .i64 t] 26) = w1 at *
    obtain ⟨g, hg⟩ : ∃ g, g = W.heap.size := ⟨_, rfl⟩
    rw [← hg] at hx
    simp only [← hg]
    have HX := Lib.hid hx
    have HB := Lib.hid hb0
    clear hx hb0 hg
    obtain ⟨d0, d1, d2, d3, d4, d5, d6, d7, d8, d9⟩ := box10 HX.out
    go_upto_region 2 with (go_at_call 6; refine (cE _).out.mono ?_; rintro e w2 ⟨⟨A, cap, rfl, hbl⟩, hb⟩; have HBL := Lib.hid hbl; replace HX := Lib.hid (kept3 HX.out hb); replace HB := Lib.hid (HB.out.trans (hb.mono HB.out.size)); clear hb hbl cE d0 d1 d2 d3 d4 d5 d6 d7 d8 d9; obtain ⟨d0, d1, d2, d3, d4, d5, d6, d7, d8, d9⟩ := box10 HX.out)
    go_upto_region 4 with (first
      | (go_at_call 8; refine (cAs _).out.mono ?_; rintro e w3 ⟨rfl, hb⟩; replace HX := Lib.hid (kept3 HX.out hb); replace HB := Lib.hid (HB.out.trans (hb.mono HB.out.size)); replace HBL := Lib.hid (HBL.out.below hb); clear hb d0 d1 d2 d3 d4 d5 d6 d7 d8 d9; obtain ⟨d0, d1, d2, d3, d4, d5, d6, d7, d8, d9⟩ := box10 HX.out)
      | (go_at_call 7; refine (cRR _).out.mono ?_; rintro e w4 ⟨rfl, hb⟩; replace HX := Lib.hid (kept3 HX.out hb); replace HB := Lib.hid (HB.out.trans (hb.mono HB.out.size)); replace HBL := Lib.hid (HBL.out.below hb); clear hb cRR d0 d1 d2 d3 d4 d5 d6 d7 d8 d9; obtain ⟨d0, d1, d2, d3, d4, d5, d6, d7, d8, d9⟩ := box10 HX.out))
    have t0 := fun td : Drift.Tide [] w4 [] => Drift.Tide.cell d0 (by simp) td
    have t1 := fun td : Drift.Tide [] w4 [] => Drift.Tide.cell d1 (by simp) td
    have t2 := fun td : Drift.Tide [] w4 [] => Drift.Tide.cell d2 (by simp) td
    have t3 := fun td : Drift.Tide [] w4 [] => Drift.Tide.cell d3 (by simp) td
    have t4 := fun td : Drift.Tide [] w4 [] => Drift.Tide.cell d4 (by simp) td
    have t5 := fun td : Drift.Tide [] w4 [] => Drift.Tide.cell d5 (by simp) td
    have t6 := fun td : Drift.Tide [] w4 [] => Drift.Tide.cell d6 (by simp) td
    have t7 := fun td : Drift.Tide [] w4 [] => Drift.Tide.cell d7 (by simp) td
    have t8 := fun td : Drift.Tide [] w4 [] => Drift.Tide.cell d8 (by simp) td
    have t9 := fun td : Drift.Tide [] w4 [] => Drift.Tide.cell d9 (by simp) td
    have rt := fun td : Drift.Tide [] w4 [] => run_text_n (P := Try.prog) Try.underlying27 Try.underlying5 Try.underlying9 (HBL.out.below td.into.below) HSL.out.symm cap
    generalize strOf s = st at *
    clear d0 d1 d2 d3 d4 d5 d6 d7 d8 d9 HBL HSL
    refine Drift.wp_region_drift [] [(0,[]),(1,[]),(2,[]),(3,[]),(4,[]),(5,[]),(6,[]),(7,[]),(8,[]),(9,[]),(10,[]),(11,[]),(12,[]),(13,[]),(14,[]),(15,[]),(16,[])] [] [] (by kernel_rfl) (by kernel_rfl) (by simp) ?_
    simp only [Drift.pick, Drift.opsAt, List.getElem?_toArray, List.getElem?_cons_zero, List.getElem?_cons_succ, List.cons_append, List.nil_append, List.filterMap_nil]
    repeat (refine Drift.walk_step (fun K hK => ?_); go_simp; first | (refine hK _ ?_; clear hK K) | (apply Exists.intro; refine ⟨fun td => ?_, hK _ ?_⟩; (first | (go_at_call 8; exact (cAs _).out) | (go_at_call 11; exact (cB' _).out) | (go_at_call 9; exact (cHR _).out) | (go_at_call 10; exact (cA _).out)); clear hK K))
    refine Drift.walk_nil ?_
    intro w7 hb7 _
    replace HB := Lib.hid (HB.out.trans (hb7.mono HB.out.size))
    clear hb7 rt t0 t1 t2 t3 t4 t5 t6 t7 t8 t9
    simp only [List.length_cons, List.length_nil, List.drop_succ_cons, List.drop_zero, Nat.zero_add, Nat.reduceAdd]
    go_wp2_with fail
    go_ret
    exact ⟨rfl, HB.out⟩
end No
end Go.Proofs.Yteefkhgmcknbaaa
