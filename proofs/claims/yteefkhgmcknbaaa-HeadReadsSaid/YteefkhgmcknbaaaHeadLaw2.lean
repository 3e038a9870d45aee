/-
  HeadReads. Written by scripts/headlaws.py.
-/
import Derived.Test.YteefkhgmcknbaaaHeadLaw
namespace Go.Proofs.Yteefkhgmcknbaaa
open Go.RowKit
namespace No
open Mem Bu
open Wd (be val be_length val_be)
set_option maxRecDepth 100000 in
set_option maxHeartbeats 8000000 in
theorem HeadReads_walk (A : Option Addr) (cap : Nat) (b : List UInt8) (W : World) (h : BL W A b) (hcap : b.length ≤ cap) (_ : b.length ≤ maxLen) : Calls Try.prog 4 #[.slice A b.length cap] W fun e w' => e = .returned (.bool true) ∧ Below W.heap.size W w' := by
  have cA := fun w => Lib.hid (HAwake_any w)
  by_cases hlen : b.length ≤ 70000
  case neg =>
    have hgt : (70000 : Int) < ((b.length : Nat) : Int) := by omega
    generalize b.length = bl at *
    clear h hcap hlen
    go_enter Try.func4, Try.ntmps4
    go_wp2_with (go_at_call 10; refine (cA _).out.mono ?_; rintro e w6 ⟨rfl, hb⟩; have HB := Lib.hid hb; clear hb)
    go_ret
    exact ⟨rfl, HB.out⟩
  obtain ⟨k, p, hp⟩ := HdP.some b
  have hkr : k.root < 4294967296 := by
    rcases hp with ⟨-, h1, -⟩ | ⟨-, rfl, -⟩
    · exact nums_small h1 _ (by simp [hNums])
    · exact (by decide : (0 : Nat) < 4294967296)
  have cD : ∀ w, Below W.heap.size W w → Hid (Calls Try.prog 12 #[.slice A b.length cap] w fun e w' => e = .returned (.tuple #[.agg (hdCs k), .int .i64 (okE p)]) ∧ Below w.heap.size w w') := fun w hw => HDecode_c (h.below hw) hlen hcap k p hp
  have cRD : ∀ w, Hid (Calls Try.prog 13 #[.string (strOf b)] w fun e w' => e = .returned (.tuple #[.agg (hdCs k), .bool p]) ∧ Below w.heap.size w w') := fun w => RHDecode_any (strOf b) (by rw [strOf_size]; omega) w k p hp
  have cAs : ∀ w, Hid (Calls Try.prog 8 #[.agg (hdCs k)] w fun e w' => e = .returned (.agg (hdCs k)) ∧ Below w.heap.size w w') := fun w => As_any k w
  have hq := eq_hr k k true (by simp)
  have hz := eq_hd k zeroHd
  have cE : p = true → ∀ w, Hid (Calls Try.prog 6 #[.agg (hdCs k)] w fun e w' => (∃ A cap, e = .returned (.tuple #[.slice A b.length cap, .int .i64 0]) ∧ BL w' A b) ∧ Below w.heap.size w w') := fun hpt w => by
    rcases hp with ⟨-, h1, h2⟩ | ⟨h1, -⟩
    · have h9 := HEncode_c k hkr w (.inr ⟨h1, rfl, rfl⟩)
      rw [h2] at h9
      exact h9.mono fun e w' ⟨⟨A, cap, he, hf, _⟩, hb⟩ => ⟨⟨A, cap, he, hf.bl⟩, hb⟩
    · rw [hpt] at h1
      cases h1
  have HKZ : Hid (p = false → k = zeroHd) := fun hpf => by
    rcases hp with ⟨h1, -⟩ | ⟨-, h1, -⟩
    · rw [hpf] at h1
      cases h1
    · exact h1
  have HBL := Lib.hid h
  obtain ⟨bl, hbl⟩ : ∃ m, m = b.length := ⟨_, rfl⟩
  rw [← hbl] at cD cE ⊢
  have hgt : decide ((70000 : Int) < (bl : Int)) = false := by simp; omega
  have HLB := Lib.hid hbl.symm
  clear h hcap hlen hp hkr hbl
  obtain ⟨⟨cB, cY, cF, cN, cU, cL, cKy, cV⟩, r, t⟩ := k
  cases p with
  | false =>
    have hk0 := HKZ.out rfl
    have hz2 := hz true (by simp [hk0])
    clear hz hq cE cAs HKZ
    rw [hk0] at cD cRD hz2
    clear hk0
    have HC0 : Hid (hdCs zeroHd = #[.int .i64 0, .int .i64 0, .int .i64 0, .int .i64 0, .int .i64 0, .int .i64 0, .int .i64 0, .int .i64 0, .int .u32 0, .int .i64 0]) := rfl
    rw [HC0.out] at cD cRD hz2
    simp only [okE, Bool.false_eq_true, if_false] at cD
    go_enter Try.func4, Try.ntmps4
    go_upto_region 4 with (go_at_call 12; refine (cD _ (Below.refl _ _)).out.mono ?_; rintro e w1 ⟨rfl, hb⟩; have HB := Lib.hid hb; replace HBL := Lib.hid (HBL.out.below hb); clear hb cD)
    have hx := heap_alloc_new w1 (.cells #[.int .i64 0, .int .i64 0, .int .i64 0, .int .i64 0, .int .i64 0, .int .i64 0, .int .i64 0, .int .i64 0, .int .u32 0, .int .i64 0] 26)
    have hb0 : Below w1.heap.size w1 (w1.alloc (.cells #[.int .i64 0, .int .i64 0, .int .i64 0, .int .i64 0, .int .i64 0, .int .i64 0, .int .i64 0, .int .i64 0, .int .u32 0, .int .i64 0] 26)) := (Below.refl _ _).alloc (Nat.le_refl _) _
    generalize w1.alloc (.cells #[.int .i64 0, .int .i64 0, .int .i64 0, .int .i64 0, .int .i64 0, .int .i64 0, .int .i64 0, .int .i64 0, .int .u32 0, .int .i64 0] 26) = w2 at *
    obtain ⟨g, hg⟩ : ∃ g, g = w1.heap.size := ⟨_, rfl⟩
    rw [← hg] at hx
    simp only [← hg]
    replace HB := Lib.hid (HB.out.trans (hb0.mono HB.out.size))
    replace HBL := Lib.hid (HBL.out.below hb0)
    have HX := Lib.hid hx
    clear hx hb0 hg
    have rt := run_text_n (P := Try.prog) Try.underlying27 Try.underlying5 Try.underlying9 HBL.out HLB.out cap
    go_upto_region 5 with (go_at_call 13; refine (cRD _).out.mono ?_; rintro e w3 ⟨rfl, hb⟩; replace HX := Lib.hid (kept3 HX.out hb); replace HB := Lib.hid (HB.out.trans (hb.mono HB.out.size)); replace HBL := Lib.hid (HBL.out.below hb); clear hb cRD rt)
    have hx := heap_alloc_new w3 (.cells #[.int .i64 0, .int .i64 0, .int .i64 0, .int .i64 0, .int .i64 0, .int .i64 0, .int .i64 0, .int .i64 0, .int .u32 0, .int .i64 0] 32)
    have hb0 : Below w3.heap.size w3 (w3.alloc (.cells #[.int .i64 0, .int .i64 0, .int .i64 0, .int .i64 0, .int .i64 0, .int .i64 0, .int .i64 0, .int .i64 0, .int .u32 0, .int .i64 0] 32)) := (Below.refl _ _).alloc (Nat.le_refl _) _
    generalize w3.alloc (.cells #[.int .i64 0, .int .i64 0, .int .i64 0, .int .i64 0, .int .i64 0, .int .i64 0, .int .i64 0, .int .i64 0, .int .u32 0, .int .i64 0] 32) = w4 at *
    obtain ⟨q, hg⟩ : ∃ g, g = w3.heap.size := ⟨_, rfl⟩
    rw [← hg] at hx
    simp only [← hg]
    replace HB := Lib.hid (HB.out.trans (hb0.mono HB.out.size))
    replace HBL := Lib.hid (HBL.out.below hb0)
    replace HX := Lib.hid (kept3 HX.out hb0)
    have HY := Lib.hid hx
    clear hx hb0 hg
    obtain ⟨d0, d1, d2, d3, d4, d5, d6, d7, d8, d9⟩ := box10 HX.out
    go_wp2_with (go_at_call 10; refine (cA _).out.mono ?_; rintro e w6 ⟨rfl, hb⟩; replace HB := Lib.hid (HB.out.trans (hb.mono HB.out.size)); clear hb )
    go_ret
    exact ⟨rfl, HB.out⟩
  | true =>
    replace cE := cE rfl
    clear hz HKZ
    unfold hdCs at cD cRD cE cAs hq
    simp only [okE, if_true] at cD cRD cE cAs hq
    go_enter Try.func4, Try.ntmps4
    go_upto_region 4 with (go_at_call 12; refine (cD _ (Below.refl _ _)).out.mono ?_; rintro e w1 ⟨rfl, hb⟩; have HB := Lib.hid hb; replace HBL := Lib.hid (HBL.out.below hb); clear hb cD)
    have hx := heap_alloc_new w1 (.cells #[.int .i64 cB, .int .i64 cY, .int .i64 cF, .int .i64 cN, .int .i64 cU, .int .i64 cL, .int .i64 cKy, .int .i64 cV, .int .u32 (r : Int), .int .i64 t] 26)
    have hb0 : Below w1.heap.size w1 (w1.alloc (.cells #[.int .i64 cB, .int .i64 cY, .int .i64 cF, .int .i64 cN, .int .i64 cU, .int .i64 cL, .int .i64 cKy, .int .i64 cV, .int .u32 (r : Int), .int .i64 t] 26)) := (Below.refl _ _).alloc (Nat.le_refl _) _
    generalize w1.alloc (.cells #[.int .i64 cB, .int .i64 cY, .int .i64 cF, .int .i64 cN, .int .i64 cU, .int .i64 cL, .int .i64 cKy, .int .i64 cV, .int .u32 (r : Int), .int .i64 t] 26) = w2 at *
    obtain ⟨g, hg⟩ : ∃ g, g = w1.heap.size := ⟨_, rfl⟩
    rw [← hg] at hx
    simp only [← hg]
    replace HB := Lib.hid (HB.out.trans (hb0.mono HB.out.size))
    replace HBL := Lib.hid (HBL.out.below hb0)
    have HX := Lib.hid hx
    clear hx hb0 hg
    have rt := run_text_n (P := Try.prog) Try.underlying27 Try.underlying5 Try.underlying9 HBL.out HLB.out cap
    go_upto_region 5 with (go_at_call 13; refine (cRD _).out.mono ?_; rintro e w3 ⟨rfl, hb⟩; replace HX := Lib.hid (kept3 HX.out hb); replace HB := Lib.hid (HB.out.trans (hb.mono HB.out.size)); replace HBL := Lib.hid (HBL.out.below hb); clear hb cRD rt)
    have hx := heap_alloc_new w3 (.cells #[.int .i64 cB, .int .i64 cY, .int .i64 cF, .int .i64 cN, .int .i64 cU, .int .i64 cL, .int .i64 cKy, .int .i64 cV, .int .u32 (r : Int), .int .i64 t] 32)
    have hb0 : Below w3.heap.size w3 (w3.alloc (.cells #[.int .i64 cB, .int .i64 cY, .int .i64 cF, .int .i64 cN, .int .i64 cU, .int .i64 cL, .int .i64 cKy, .int .i64 cV, .int .u32 (r : Int), .int .i64 t] 32)) := (Below.refl _ _).alloc (Nat.le_refl _) _
    generalize w3.alloc (.cells #[.int .i64 cB, .int .i64 cY, .int .i64 cF, .int .i64 cN, .int .i64 cU, .int .i64 cL, .int .i64 cKy, .int .i64 cV, .int .u32 (r : Int), .int .i64 t] 32) = w4 at *
    obtain ⟨q, hg⟩ : ∃ g, g = w3.heap.size := ⟨_, rfl⟩
    rw [← hg] at hx
    simp only [← hg]
    replace HB := Lib.hid (HB.out.trans (hb0.mono HB.out.size))
    replace HBL := Lib.hid (HBL.out.below hb0)
    replace HX := Lib.hid (kept3 HX.out hb0)
    have HY := Lib.hid hx
    clear hx hb0 hg
    obtain ⟨d0, d1, d2, d3, d4, d5, d6, d7, d8, d9⟩ := box10 HX.out
    go_upto_region 8 with (go_at_call 6; refine (cE _).out.mono ?_; rintro e w5 ⟨⟨A2, cap2, rfl, hbl⟩, hb⟩; have HBL2 := Lib.hid hbl; replace HX := Lib.hid (kept3 HX.out hb); replace HY := Lib.hid (kept3 HY.out hb); replace HB := Lib.hid (HB.out.trans (hb.mono HB.out.size)); replace HBL := Lib.hid (HBL.out.below hb); clear hb hbl cE d0 d1 d2 d3 d4 d5 d6 d7 d8 d9; obtain ⟨d0, d1, d2, d3, d4, d5, d6, d7, d8, d9⟩ := box10 HX.out)
    obtain ⟨y0, y1, y2, y3, y4, y5, y6, y7, y8, y9⟩ := box10 HY.out
    have t0 := fun td : Drift.Tide [] w5 [] => Drift.Tide.cell d0 (by simp) td
    have u0 := fun td : Drift.Tide [] w5 [] => Drift.Tide.cell y0 (by simp) td
    have t1 := fun td : Drift.Tide [] w5 [] => Drift.Tide.cell d1 (by simp) td
    have u1 := fun td : Drift.Tide [] w5 [] => Drift.Tide.cell y1 (by simp) td
    have t2 := fun td : Drift.Tide [] w5 [] => Drift.Tide.cell d2 (by simp) td
    have u2 := fun td : Drift.Tide [] w5 [] => Drift.Tide.cell y2 (by simp) td
    have t3 := fun td : Drift.Tide [] w5 [] => Drift.Tide.cell d3 (by simp) td
    have u3 := fun td : Drift.Tide [] w5 [] => Drift.Tide.cell y3 (by simp) td
    have t4 := fun td : Drift.Tide [] w5 [] => Drift.Tide.cell d4 (by simp) td
    have u4 := fun td : Drift.Tide [] w5 [] => Drift.Tide.cell y4 (by simp) td
    have t5 := fun td : Drift.Tide [] w5 [] => Drift.Tide.cell d5 (by simp) td
    have u5 := fun td : Drift.Tide [] w5 [] => Drift.Tide.cell y5 (by simp) td
    have t6 := fun td : Drift.Tide [] w5 [] => Drift.Tide.cell d6 (by simp) td
    have u6 := fun td : Drift.Tide [] w5 [] => Drift.Tide.cell y6 (by simp) td
    have t7 := fun td : Drift.Tide [] w5 [] => Drift.Tide.cell d7 (by simp) td
    have u7 := fun td : Drift.Tide [] w5 [] => Drift.Tide.cell y7 (by simp) td
    have t8 := fun td : Drift.Tide [] w5 [] => Drift.Tide.cell d8 (by simp) td
    have u8 := fun td : Drift.Tide [] w5 [] => Drift.Tide.cell y8 (by simp) td
    have t9 := fun td : Drift.Tide [] w5 [] => Drift.Tide.cell d9 (by simp) td
    have u9 := fun td : Drift.Tide [] w5 [] => Drift.Tide.cell y9 (by simp) td
    have rt := fun td : Drift.Tide [] w5 [] => run_text_n (P := Try.prog) Try.underlying27 Try.underlying5 Try.underlying9 (HBL.out.below td.into.below) HLB.out cap
    have rt2 := fun td : Drift.Tide [] w5 [] => run_text_n (P := Try.prog) Try.underlying27 Try.underlying5 Try.underlying9 (HBL2.out.below td.into.below) HLB.out cap2
    generalize strOf b = st at *
    clear d0 d1 d2 d3 d4 d5 d6 d7 d8 d9 y0 y1 y2 y3 y4 y5 y6 y7 y8 y9 HBL HBL2 HLB hgt
    refine Drift.wp_region_drift [] [(0,[]),(1,[]),(2,[]),(3,[]),(4,[]),(5,[]),(6,[]),(7,[]),(8,[]),(9,[]),(10,[]),(11,[]),(12,[]),(13,[]),(14,[]),(15,[]),(16,[]),(17,[]),(18,[]),(19,[]),(20,[]),(21,[])] [] [] (by kernel_rfl) (by kernel_rfl) (by simp) ?_
    simp only [Drift.pick, Drift.opsAt, List.getElem?_toArray, List.getElem?_cons_zero, List.getElem?_cons_succ, List.cons_append, List.nil_append, List.filterMap_nil]
    repeat (refine Drift.walk_step (fun K hK => ?_); go_simp; first | (refine hK _ ?_; clear hK K) | (apply Exists.intro; refine ⟨fun td => ?_, hK _ ?_⟩; (first | (go_at_call 8; exact (cAs _).out) | (go_at_call 10; exact (cA _).out)); clear hK K))
    refine Drift.walk_nil ?_
    intro w7 hb7 _
    replace HB := Lib.hid (HB.out.trans (hb7.mono HB.out.size))
    clear hb7 rt rt2 t0 t1 t2 t3 t4 t5 t6 t7 t8 t9 u0 u1 u2 u3 u4 u5 u6 u7 u8 u9
    simp only [List.length_cons, List.length_nil, List.drop_succ_cons, List.drop_zero, Nat.zero_add, Nat.reduceAdd]
    go_wp2_with fail
    go_ret
    exact ⟨rfl, HB.out⟩
end No
end Go.Proofs.Yteefkhgmcknbaaa
