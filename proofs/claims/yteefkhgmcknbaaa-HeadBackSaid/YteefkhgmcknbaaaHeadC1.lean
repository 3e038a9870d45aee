/-
  The code's head: Right. Written by scripts/headc1.py.
-/
import Derived.Test.YteefkhgmcknbaaaHeadLaw0
import Derived.Test.YteefkhgmcknbaaaConf3
namespace Go.Proofs.Yteefkhgmcknbaaa
open Go.RowKit
namespace No
open Mem Bu
set_option maxRecDepth 100000 in
set_option maxHeartbeats 2000000 in
theorem HRight_c (h : Hdr) (_ : h.root < 4294967296) (w : World) (x : Bool) (hx : x = true ↔ HdOk h) : Calls Try.prog 9 #[.agg (hdCs h)] w fun e w' => e = .returned (.bool x) ∧ Below w.heap.size w w' := by
  obtain ⟨⟨cB, cY, cF, cN, cU, cL, cKy, cV⟩, r, t⟩ := h
  unfold hdCs
  simp only
  by_cases hq9 : Cf.Right cB cY cF cN cU cL cKy cV
  · have cQ : ∀ w, Hid (Calls Try.prog 18 #[.agg #[.int .i64 cB, .int .i64 cY, .int .i64 cF, .int .i64 cN, .int .i64 cU, .int .i64 cL, .int .i64 cKy, .int .i64 cV]] w fun e w' => e = .returned (.int .i64 0) ∧ Below w.heap.size w w') := fun w => Cf.Check_yes cB cY cF cN cU cL cKy cV w hq9
    have hcv : IntKind.u32.wrap cB = cB := by
      obtain ⟨-, ⟨hb1, hb2⟩, -⟩ := hq9
      rw [IntKind.wrap_u32]
      omega
    by_cases h1 : (1 : Int) ≤ (r : Int)
    · by_cases h2 : (r : Int) < cB
      · by_cases h3 : 1 ≤ t
        · by_cases h4 : t ≤ 41
          · obtain rfl : x = true := by
              cases x
              · exact absurd (hx.2 ⟨hq9, (by show 0 < r; omega), h2, (by show 0 < t; omega), (by show t < 42; omega)⟩) (by simp)
              · rfl
            clear hx hq9
            go_enter Try.func9, Try.ntmps9
            go_upto_region 1 with fail
            have hx := heap_alloc_new w (.cells #[.int .i64 cB, .int .i64 cY, .int .i64 cF, .int .i64 cN, .int .i64 cU, .int .i64 cL, .int .i64 cKy, .int .i64 cV, .int .u32 (r : Int), .int .i64 t] 26)
            have hb : Below w.heap.size w (w.alloc (.cells #[.int .i64 cB, .int .i64 cY, .int .i64 cF, .int .i64 cN, .int .i64 cU, .int .i64 cL, .int .i64 cKy, .int .i64 cV, .int .u32 (r : Int), .int .i64 t] 26)) := (Below.refl _ _).alloc (Nat.le_refl _) _
            generalize w.alloc (.cells #[.int .i64 cB, .int .i64 cY, .int .i64 cF, .int .i64 cN, .int .i64 cU, .int .i64 cL, .int .i64 cKy, .int .i64 cV, .int .u32 (r : Int), .int .i64 t] 26) = w1 at *
            obtain ⟨g, hg⟩ : ∃ g, g = w.heap.size := ⟨_, rfl⟩
            rw [← hg] at hx
            simp only [← hg]
            clear hg
            obtain ⟨g0, g1, g2, g3, g4, g5, g6, g7, g8, g9⟩ := box10 hx
            have HX := Lib.hid hx
            have HB := Lib.hid hb
            clear hx hb
            go_wp2_with (go_at_call 18; refine (cQ _).out.mono ?_; rintro e w2 ⟨rfl, hb⟩; replace HX := Lib.hid (kept3 HX.out hb); replace HB := Lib.hid (HB.out.trans (hb.mono HB.out.size)); clear hb cQ g0 g1 g2 g3 g4 g5 g6 g7 g8 g9; obtain ⟨g0, g1, g2, g3, g4, g5, g6, g7, g8, g9⟩ := box10 HX.out)
            go_ret
            exact ⟨rfl, HB.out⟩
          · have h4n : decide (t ≤ 41) = false := by simpa using h4
            obtain rfl : x = false := by
              cases x
              · rfl
              · exact absurd (hx.1 rfl) (by unfold HdOk; simp only; rintro ⟨a0, a1, a2, a3, a4⟩; first | exact hq9 a0 | omega)
            clear hx hq9
            go_enter Try.func9, Try.ntmps9
            go_upto_region 1 with fail
            have hx := heap_alloc_new w (.cells #[.int .i64 cB, .int .i64 cY, .int .i64 cF, .int .i64 cN, .int .i64 cU, .int .i64 cL, .int .i64 cKy, .int .i64 cV, .int .u32 (r : Int), .int .i64 t] 26)
            have hb : Below w.heap.size w (w.alloc (.cells #[.int .i64 cB, .int .i64 cY, .int .i64 cF, .int .i64 cN, .int .i64 cU, .int .i64 cL, .int .i64 cKy, .int .i64 cV, .int .u32 (r : Int), .int .i64 t] 26)) := (Below.refl _ _).alloc (Nat.le_refl _) _
            generalize w.alloc (.cells #[.int .i64 cB, .int .i64 cY, .int .i64 cF, .int .i64 cN, .int .i64 cU, .int .i64 cL, .int .i64 cKy, .int .i64 cV, .int .u32 (r : Int), .int .i64 t] 26) = w1 at *
            obtain ⟨g, hg⟩ : ∃ g, g = w.heap.size := ⟨_, rfl⟩
            rw [← hg] at hx
            simp only [← hg]
            clear hg
            obtain ⟨g0, g1, g2, g3, g4, g5, g6, g7, g8, g9⟩ := box10 hx
            have HX := Lib.hid hx
            have HB := Lib.hid hb
            clear hx hb
            go_wp2_with (go_at_call 18; refine (cQ _).out.mono ?_; rintro e w2 ⟨rfl, hb⟩; replace HX := Lib.hid (kept3 HX.out hb); replace HB := Lib.hid (HB.out.trans (hb.mono HB.out.size)); clear hb cQ g0 g1 g2 g3 g4 g5 g6 g7 g8 g9; obtain ⟨g0, g1, g2, g3, g4, g5, g6, g7, g8, g9⟩ := box10 HX.out)
            go_ret
            exact ⟨rfl, HB.out⟩
        · have h3n : decide (1 ≤ t) = false := by simpa using h3
          obtain rfl : x = false := by
            cases x
            · rfl
            · exact absurd (hx.1 rfl) (by unfold HdOk; simp only; rintro ⟨a0, a1, a2, a3, a4⟩; first | exact hq9 a0 | omega)
          clear hx hq9
          go_enter Try.func9, Try.ntmps9
          go_upto_region 1 with fail
          have hx := heap_alloc_new w (.cells #[.int .i64 cB, .int .i64 cY, .int .i64 cF, .int .i64 cN, .int .i64 cU, .int .i64 cL, .int .i64 cKy, .int .i64 cV, .int .u32 (r : Int), .int .i64 t] 26)
          have hb : Below w.heap.size w (w.alloc (.cells #[.int .i64 cB, .int .i64 cY, .int .i64 cF, .int .i64 cN, .int .i64 cU, .int .i64 cL, .int .i64 cKy, .int .i64 cV, .int .u32 (r : Int), .int .i64 t] 26)) := (Below.refl _ _).alloc (Nat.le_refl _) _
          generalize w.alloc (.cells #[.int .i64 cB, .int .i64 cY, .int .i64 cF, .int .i64 cN, .int .i64 cU, .int .i64 cL, .int .i64 cKy, .int .i64 cV, .int .u32 (r : Int), .int .i64 t] 26) = w1 at *
          obtain ⟨g, hg⟩ : ∃ g, g = w.heap.size := ⟨_, rfl⟩
          rw [← hg] at hx
          simp only [← hg]
          clear hg
          obtain ⟨g0, g1, g2, g3, g4, g5, g6, g7, g8, g9⟩ := box10 hx
          have HX := Lib.hid hx
          have HB := Lib.hid hb
          clear hx hb
          go_wp2_with (go_at_call 18; refine (cQ _).out.mono ?_; rintro e w2 ⟨rfl, hb⟩; replace HX := Lib.hid (kept3 HX.out hb); replace HB := Lib.hid (HB.out.trans (hb.mono HB.out.size)); clear hb cQ g0 g1 g2 g3 g4 g5 g6 g7 g8 g9; obtain ⟨g0, g1, g2, g3, g4, g5, g6, g7, g8, g9⟩ := box10 HX.out)
          go_ret
          exact ⟨rfl, HB.out⟩
      · have h2n : decide ((r : Int) < cB) = false := by simpa using h2
        obtain rfl : x = false := by
          cases x
          · rfl
          · exact absurd (hx.1 rfl) (by unfold HdOk; simp only; rintro ⟨a0, a1, a2, a3, a4⟩; first | exact hq9 a0 | omega)
        clear hx hq9
        go_enter Try.func9, Try.ntmps9
        go_upto_region 1 with fail
        have hx := heap_alloc_new w (.cells #[.int .i64 cB, .int .i64 cY, .int .i64 cF, .int .i64 cN, .int .i64 cU, .int .i64 cL, .int .i64 cKy, .int .i64 cV, .int .u32 (r : Int), .int .i64 t] 26)
        have hb : Below w.heap.size w (w.alloc (.cells #[.int .i64 cB, .int .i64 cY, .int .i64 cF, .int .i64 cN, .int .i64 cU, .int .i64 cL, .int .i64 cKy, .int .i64 cV, .int .u32 (r : Int), .int .i64 t] 26)) := (Below.refl _ _).alloc (Nat.le_refl _) _
        generalize w.alloc (.cells #[.int .i64 cB, .int .i64 cY, .int .i64 cF, .int .i64 cN, .int .i64 cU, .int .i64 cL, .int .i64 cKy, .int .i64 cV, .int .u32 (r : Int), .int .i64 t] 26) = w1 at *
        obtain ⟨g, hg⟩ : ∃ g, g = w.heap.size := ⟨_, rfl⟩
        rw [← hg] at hx
        simp only [← hg]
        clear hg
        obtain ⟨g0, g1, g2, g3, g4, g5, g6, g7, g8, g9⟩ := box10 hx
        have HX := Lib.hid hx
        have HB := Lib.hid hb
        clear hx hb
        go_wp2_with (go_at_call 18; refine (cQ _).out.mono ?_; rintro e w2 ⟨rfl, hb⟩; replace HX := Lib.hid (kept3 HX.out hb); replace HB := Lib.hid (HB.out.trans (hb.mono HB.out.size)); clear hb cQ g0 g1 g2 g3 g4 g5 g6 g7 g8 g9; obtain ⟨g0, g1, g2, g3, g4, g5, g6, g7, g8, g9⟩ := box10 HX.out)
        go_ret
        exact ⟨rfl, HB.out⟩
    · have h1n : decide ((1 : Int) ≤ (r : Int)) = false := by simp; omega
      obtain rfl : x = false := by
        cases x
        · rfl
        · exact absurd (hx.1 rfl) (by unfold HdOk; simp only; rintro ⟨a0, a1, a2, a3, a4⟩; first | exact hq9 a0 | omega)
      clear hx hq9
      go_enter Try.func9, Try.ntmps9
      go_upto_region 1 with fail
      have hx := heap_alloc_new w (.cells #[.int .i64 cB, .int .i64 cY, .int .i64 cF, .int .i64 cN, .int .i64 cU, .int .i64 cL, .int .i64 cKy, .int .i64 cV, .int .u32 (r : Int), .int .i64 t] 26)
      have hb : Below w.heap.size w (w.alloc (.cells #[.int .i64 cB, .int .i64 cY, .int .i64 cF, .int .i64 cN, .int .i64 cU, .int .i64 cL, .int .i64 cKy, .int .i64 cV, .int .u32 (r : Int), .int .i64 t] 26)) := (Below.refl _ _).alloc (Nat.le_refl _) _
      generalize w.alloc (.cells #[.int .i64 cB, .int .i64 cY, .int .i64 cF, .int .i64 cN, .int .i64 cU, .int .i64 cL, .int .i64 cKy, .int .i64 cV, .int .u32 (r : Int), .int .i64 t] 26) = w1 at *
      obtain ⟨g, hg⟩ : ∃ g, g = w.heap.size := ⟨_, rfl⟩
      rw [← hg] at hx
      simp only [← hg]
      clear hg
      obtain ⟨g0, g1, g2, g3, g4, g5, g6, g7, g8, g9⟩ := box10 hx
      have HX := Lib.hid hx
      have HB := Lib.hid hb
      clear hx hb
      go_wp2_with (go_at_call 18; refine (cQ _).out.mono ?_; rintro e w2 ⟨rfl, hb⟩; replace HX := Lib.hid (kept3 HX.out hb); replace HB := Lib.hid (HB.out.trans (hb.mono HB.out.size)); clear hb cQ g0 g1 g2 g3 g4 g5 g6 g7 g8 g9; obtain ⟨g0, g1, g2, g3, g4, g5, g6, g7, g8, g9⟩ := box10 HX.out)
      go_ret
      exact ⟨rfl, HB.out⟩
  · have cQ : ∀ w, Hid (Calls Try.prog 18 #[.agg #[.int .i64 cB, .int .i64 cY, .int .i64 cF, .int .i64 cN, .int .i64 cU, .int .i64 cL, .int .i64 cKy, .int .i64 cV]] w fun e w' => e = .returned (.int .i64 2) ∧ Below w.heap.size w w') := fun w => Cf.Check_no cB cY cF cN cU cL cKy cV w hq9
    obtain rfl : x = false := by
      cases x
      · rfl
      · exact absurd (hx.1 rfl) (by unfold HdOk; simp only; rintro ⟨a0, a1, a2, a3, a4⟩; first | exact hq9 a0 | omega)
    clear hx hq9
    go_enter Try.func9, Try.ntmps9
    go_upto_region 1 with fail
    have hx := heap_alloc_new w (.cells #[.int .i64 cB, .int .i64 cY, .int .i64 cF, .int .i64 cN, .int .i64 cU, .int .i64 cL, .int .i64 cKy, .int .i64 cV, .int .u32 (r : Int), .int .i64 t] 26)
    have hb : Below w.heap.size w (w.alloc (.cells #[.int .i64 cB, .int .i64 cY, .int .i64 cF, .int .i64 cN, .int .i64 cU, .int .i64 cL, .int .i64 cKy, .int .i64 cV, .int .u32 (r : Int), .int .i64 t] 26)) := (Below.refl _ _).alloc (Nat.le_refl _) _
    generalize w.alloc (.cells #[.int .i64 cB, .int .i64 cY, .int .i64 cF, .int .i64 cN, .int .i64 cU, .int .i64 cL, .int .i64 cKy, .int .i64 cV, .int .u32 (r : Int), .int .i64 t] 26) = w1 at *
    obtain ⟨g, hg⟩ : ∃ g, g = w.heap.size := ⟨_, rfl⟩
    rw [← hg] at hx
    simp only [← hg]
    clear hg
    obtain ⟨g0, g1, g2, g3, g4, g5, g6, g7, g8, g9⟩ := box10 hx
    have HX := Lib.hid hx
    have HB := Lib.hid hb
    clear hx hb
    go_wp2_with (go_at_call 18; refine (cQ _).out.mono ?_; rintro e w2 ⟨rfl, hb⟩; replace HX := Lib.hid (kept3 HX.out hb); replace HB := Lib.hid (HB.out.trans (hb.mono HB.out.size)); clear hb cQ g0 g1 g2 g3 g4 g5 g6 g7 g8 g9; obtain ⟨g0, g1, g2, g3, g4, g5, g6, g7, g8, g9⟩ := box10 HX.out)
    go_ret
    exact ⟨rfl, HB.out⟩
end No
end Go.Proofs.Yteefkhgmcknbaaa
