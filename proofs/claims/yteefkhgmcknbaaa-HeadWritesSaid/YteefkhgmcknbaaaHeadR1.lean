/-
  The document's head: Right. Written by scripts/headr1.py.
-/
import Derived.Test.YteefkhgmcknbaaaHeadP
import Derived.Test.YteefkhgmcknbaaaConfR
import Derived.Test.YteefkhgmcknbaaaBox3
namespace Go.Proofs.Yteefkhgmcknbaaa
open Go.RowKit
namespace No
open Mem Bu
/-- the cells of a head -/
def hdCs (h : Hdr) : Array Value := #[.int .i64 h.c.blocks, .int .i64 h.c.bytes, .int .i64 h.c.frames, .int .i64 h.c.fan, .int .i64 h.c.buffer, .int .i64 h.c.leaf, .int .i64 h.c.key, .int .i64 h.c.val, .int .u32 (h.root : Int), .int .i64 h.ht]
theorem box10 {w : World} {b : Nat} {v0 v1 v2 v3 v4 v5 v6 v7 v8 v9 : Value} {U : TypeId} (h : w.heap[b]? = some (.cells #[v0, v1, v2, v3, v4, v5, v6, v7, v8, v9] U (0, 0))) : w.cell? ⟨b, 0, none⟩ = some v0 ∧ w.cell? ⟨b, 1, none⟩ = some v1 ∧ w.cell? ⟨b, 2, none⟩ = some v2 ∧ w.cell? ⟨b, 3, none⟩ = some v3 ∧ w.cell? ⟨b, 4, none⟩ = some v4 ∧ w.cell? ⟨b, 5, none⟩ = some v5 ∧ w.cell? ⟨b, 6, none⟩ = some v6 ∧ w.cell? ⟨b, 7, none⟩ = some v7 ∧ w.cell? ⟨b, 8, none⟩ = some v8 ∧ w.cell? ⟨b, 9, none⟩ = some v9 := by
  simp [World.cell?, h]
set_option maxRecDepth 100000 in
set_option maxHeartbeats 2000000 in
theorem RHRight_any (h : Hdr) (hr : h.root < 4294967296) (w : World) (x : Bool) (hx : x = true ↔ HdOk h) : Calls Try.prog 7 #[.agg (hdCs h)] w fun e w' => e = .returned (.bool x) ∧ Below w.heap.size w w' := by
  obtain ⟨⟨cB, cY, cF, cN, cU, cL, cKy, cV⟩, r, t⟩ := h
  unfold hdCs
  simp only at hr ⊢
  have hcv : IntKind.i64.wrap (r : Int) = (r : Int) := by rw [IntKind.wrap_i64]; omega
  by_cases hq9 : Cf.Right cB cY cF cN cU cL cKy cV
  · have cQ : ∀ w, Hid (Calls Try.prog 17 #[.agg #[.int .i64 cB, .int .i64 cY, .int .i64 cF, .int .i64 cN, .int .i64 cU, .int .i64 cL, .int .i64 cKy, .int .i64 cV]] w fun e w' => e = .returned (.bool true) ∧ Below w.heap.size w w') := fun w => Cf.RRight_yes cB cY cF cN cU cL cKy cV w hq9
    by_cases h1 : 0 < r
    · have h1' : (0 : Int) < (r : Int) := by omega
      by_cases h2 : (r : Int) < cB
      · by_cases h3 : 0 < t
        · by_cases h4 : t < 42
          · obtain rfl : x = true := by
              cases x
              · exact absurd (hx.2 ⟨hq9, h1, h2, h3, h4⟩) (by simp)
              · rfl
            clear hx hq9
            go_enter Try.func7, Try.ntmps7
            go_upto_region 1 with fail
            have hx := heap_alloc_new w (.cells #[.int .i64 cB, .int .i64 cY, .int .i64 cF, .int .i64 cN, .int .i64 cU, .int .i64 cL, .int .i64 cKy, .int .i64 cV, .int .u32 (r : Int), .int .i64 t] 32)
            have hb : Below w.heap.size w (w.alloc (.cells #[.int .i64 cB, .int .i64 cY, .int .i64 cF, .int .i64 cN, .int .i64 cU, .int .i64 cL, .int .i64 cKy, .int .i64 cV, .int .u32 (r : Int), .int .i64 t] 32)) := (Below.refl _ _).alloc (Nat.le_refl _) _
            generalize w.alloc (.cells #[.int .i64 cB, .int .i64 cY, .int .i64 cF, .int .i64 cN, .int .i64 cU, .int .i64 cL, .int .i64 cKy, .int .i64 cV, .int .u32 (r : Int), .int .i64 t] 32) = w1 at *
            obtain ⟨g, hg⟩ : ∃ g, g = w.heap.size := ⟨_, rfl⟩
            rw [← hg] at hx
            simp only [← hg]
            clear hg
            obtain ⟨g0, g1, g2, g3, g4, g5, g6, g7, g8, g9⟩ := box10 hx
            have HX := Lib.hid hx
            have HB := Lib.hid hb
            clear hx hb
            go_wp2_with (go_at_call 17; refine (cQ _).out.mono ?_; rintro e w2 ⟨rfl, hb⟩; replace HX := Lib.hid (kept3 HX.out hb); replace HB := Lib.hid (HB.out.trans (hb.mono HB.out.size)); clear hb cQ g0 g1 g2 g3 g4 g5 g6 g7 g8 g9; obtain ⟨g0, g1, g2, g3, g4, g5, g6, g7, g8, g9⟩ := box10 HX.out)
            go_ret
            exact ⟨rfl, HB.out⟩
          · have h4n : decide (t < 42) = false := by simpa using h4
            obtain rfl : x = false := by
              cases x
              · rfl
              · exact absurd (hx.1 rfl) (by unfold HdOk; simp only; rintro ⟨a0, a1, a2, a3, a4⟩; first | exact hq9 a0 | omega)
            clear hx hq9
            go_enter Try.func7, Try.ntmps7
            go_upto_region 1 with fail
            have hx := heap_alloc_new w (.cells #[.int .i64 cB, .int .i64 cY, .int .i64 cF, .int .i64 cN, .int .i64 cU, .int .i64 cL, .int .i64 cKy, .int .i64 cV, .int .u32 (r : Int), .int .i64 t] 32)
            have hb : Below w.heap.size w (w.alloc (.cells #[.int .i64 cB, .int .i64 cY, .int .i64 cF, .int .i64 cN, .int .i64 cU, .int .i64 cL, .int .i64 cKy, .int .i64 cV, .int .u32 (r : Int), .int .i64 t] 32)) := (Below.refl _ _).alloc (Nat.le_refl _) _
            generalize w.alloc (.cells #[.int .i64 cB, .int .i64 cY, .int .i64 cF, .int .i64 cN, .int .i64 cU, .int .i64 cL, .int .i64 cKy, .int .i64 cV, .int .u32 (r : Int), .int .i64 t] 32) = w1 at *
            obtain ⟨g, hg⟩ : ∃ g, g = w.heap.size := ⟨_, rfl⟩
            rw [← hg] at hx
            simp only [← hg]
            clear hg
            obtain ⟨g0, g1, g2, g3, g4, g5, g6, g7, g8, g9⟩ := box10 hx
            have HX := Lib.hid hx
            have HB := Lib.hid hb
            clear hx hb
            go_wp2_with (go_at_call 17; refine (cQ _).out.mono ?_; rintro e w2 ⟨rfl, hb⟩; replace HX := Lib.hid (kept3 HX.out hb); replace HB := Lib.hid (HB.out.trans (hb.mono HB.out.size)); clear hb cQ g0 g1 g2 g3 g4 g5 g6 g7 g8 g9; obtain ⟨g0, g1, g2, g3, g4, g5, g6, g7, g8, g9⟩ := box10 HX.out)
            go_ret
            exact ⟨rfl, HB.out⟩
        · have h3n : decide (0 < t) = false := by simpa using h3
          obtain rfl : x = false := by
            cases x
            · rfl
            · exact absurd (hx.1 rfl) (by unfold HdOk; simp only; rintro ⟨a0, a1, a2, a3, a4⟩; first | exact hq9 a0 | omega)
          clear hx hq9
          go_enter Try.func7, Try.ntmps7
          go_upto_region 1 with fail
          have hx := heap_alloc_new w (.cells #[.int .i64 cB, .int .i64 cY, .int .i64 cF, .int .i64 cN, .int .i64 cU, .int .i64 cL, .int .i64 cKy, .int .i64 cV, .int .u32 (r : Int), .int .i64 t] 32)
          have hb : Below w.heap.size w (w.alloc (.cells #[.int .i64 cB, .int .i64 cY, .int .i64 cF, .int .i64 cN, .int .i64 cU, .int .i64 cL, .int .i64 cKy, .int .i64 cV, .int .u32 (r : Int), .int .i64 t] 32)) := (Below.refl _ _).alloc (Nat.le_refl _) _
          generalize w.alloc (.cells #[.int .i64 cB, .int .i64 cY, .int .i64 cF, .int .i64 cN, .int .i64 cU, .int .i64 cL, .int .i64 cKy, .int .i64 cV, .int .u32 (r : Int), .int .i64 t] 32) = w1 at *
          obtain ⟨g, hg⟩ : ∃ g, g = w.heap.size := ⟨_, rfl⟩
          rw [← hg] at hx
          simp only [← hg]
          clear hg
          obtain ⟨g0, g1, g2, g3, g4, g5, g6, g7, g8, g9⟩ := box10 hx
          have HX := Lib.hid hx
          have HB := Lib.hid hb
          clear hx hb
          go_wp2_with (go_at_call 17; refine (cQ _).out.mono ?_; rintro e w2 ⟨rfl, hb⟩; replace HX := Lib.hid (kept3 HX.out hb); replace HB := Lib.hid (HB.out.trans (hb.mono HB.out.size)); clear hb cQ g0 g1 g2 g3 g4 g5 g6 g7 g8 g9; obtain ⟨g0, g1, g2, g3, g4, g5, g6, g7, g8, g9⟩ := box10 HX.out)
          go_ret
          exact ⟨rfl, HB.out⟩
      · have h2n : decide ((r : Int) < cB) = false := by simpa using h2
        obtain rfl : x = false := by
          cases x
          · rfl
          · exact absurd (hx.1 rfl) (by unfold HdOk; simp only; rintro ⟨a0, a1, a2, a3, a4⟩; first | exact hq9 a0 | omega)
        clear hx hq9
        go_enter Try.func7, Try.ntmps7
        go_upto_region 1 with fail
        have hx := heap_alloc_new w (.cells #[.int .i64 cB, .int .i64 cY, .int .i64 cF, .int .i64 cN, .int .i64 cU, .int .i64 cL, .int .i64 cKy, .int .i64 cV, .int .u32 (r : Int), .int .i64 t] 32)
        have hb : Below w.heap.size w (w.alloc (.cells #[.int .i64 cB, .int .i64 cY, .int .i64 cF, .int .i64 cN, .int .i64 cU, .int .i64 cL, .int .i64 cKy, .int .i64 cV, .int .u32 (r : Int), .int .i64 t] 32)) := (Below.refl _ _).alloc (Nat.le_refl _) _
        generalize w.alloc (.cells #[.int .i64 cB, .int .i64 cY, .int .i64 cF, .int .i64 cN, .int .i64 cU, .int .i64 cL, .int .i64 cKy, .int .i64 cV, .int .u32 (r : Int), .int .i64 t] 32) = w1 at *
        obtain ⟨g, hg⟩ : ∃ g, g = w.heap.size := ⟨_, rfl⟩
        rw [← hg] at hx
        simp only [← hg]
        clear hg
        obtain ⟨g0, g1, g2, g3, g4, g5, g6, g7, g8, g9⟩ := box10 hx
        have HX := Lib.hid hx
        have HB := Lib.hid hb
        clear hx hb
        go_wp2_with (go_at_call 17; refine (cQ _).out.mono ?_; rintro e w2 ⟨rfl, hb⟩; replace HX := Lib.hid (kept3 HX.out hb); replace HB := Lib.hid (HB.out.trans (hb.mono HB.out.size)); clear hb cQ g0 g1 g2 g3 g4 g5 g6 g7 g8 g9; obtain ⟨g0, g1, g2, g3, g4, g5, g6, g7, g8, g9⟩ := box10 HX.out)
        go_ret
        exact ⟨rfl, HB.out⟩
    · have h1n : decide ((0 : Int) < (r : Int)) = false := by simp; omega
      obtain rfl : x = false := by
        cases x
        · rfl
        · exact absurd (hx.1 rfl) (by unfold HdOk; simp only; rintro ⟨a0, a1, a2, a3, a4⟩; first | exact hq9 a0 | omega)
      clear hx hq9
      go_enter Try.func7, Try.ntmps7
      go_upto_region 1 with fail
      have hx := heap_alloc_new w (.cells #[.int .i64 cB, .int .i64 cY, .int .i64 cF, .int .i64 cN, .int .i64 cU, .int .i64 cL, .int .i64 cKy, .int .i64 cV, .int .u32 (r : Int), .int .i64 t] 32)
      have hb : Below w.heap.size w (w.alloc (.cells #[.int .i64 cB, .int .i64 cY, .int .i64 cF, .int .i64 cN, .int .i64 cU, .int .i64 cL, .int .i64 cKy, .int .i64 cV, .int .u32 (r : Int), .int .i64 t] 32)) := (Below.refl _ _).alloc (Nat.le_refl _) _
      generalize w.alloc (.cells #[.int .i64 cB, .int .i64 cY, .int .i64 cF, .int .i64 cN, .int .i64 cU, .int .i64 cL, .int .i64 cKy, .int .i64 cV, .int .u32 (r : Int), .int .i64 t] 32) = w1 at *
      obtain ⟨g, hg⟩ : ∃ g, g = w.heap.size := ⟨_, rfl⟩
      rw [← hg] at hx
      simp only [← hg]
      clear hg
      obtain ⟨g0, g1, g2, g3, g4, g5, g6, g7, g8, g9⟩ := box10 hx
      have HX := Lib.hid hx
      have HB := Lib.hid hb
      clear hx hb
      go_wp2_with (go_at_call 17; refine (cQ _).out.mono ?_; rintro e w2 ⟨rfl, hb⟩; replace HX := Lib.hid (kept3 HX.out hb); replace HB := Lib.hid (HB.out.trans (hb.mono HB.out.size)); clear hb cQ g0 g1 g2 g3 g4 g5 g6 g7 g8 g9; obtain ⟨g0, g1, g2, g3, g4, g5, g6, g7, g8, g9⟩ := box10 HX.out)
      go_ret
      exact ⟨rfl, HB.out⟩
  · have cQ : ∀ w, Hid (Calls Try.prog 17 #[.agg #[.int .i64 cB, .int .i64 cY, .int .i64 cF, .int .i64 cN, .int .i64 cU, .int .i64 cL, .int .i64 cKy, .int .i64 cV]] w fun e w' => e = .returned (.bool false) ∧ Below w.heap.size w w') := fun w => Cf.RRight_no cB cY cF cN cU cL cKy cV w hq9
    obtain rfl : x = false := by
      cases x
      · rfl
      · exact absurd (hx.1 rfl) (by unfold HdOk; simp only; rintro ⟨a0, a1, a2, a3, a4⟩; first | exact hq9 a0 | omega)
    clear hx hq9
    go_enter Try.func7, Try.ntmps7
    go_upto_region 1 with fail
    have hx := heap_alloc_new w (.cells #[.int .i64 cB, .int .i64 cY, .int .i64 cF, .int .i64 cN, .int .i64 cU, .int .i64 cL, .int .i64 cKy, .int .i64 cV, .int .u32 (r : Int), .int .i64 t] 32)
    have hb : Below w.heap.size w (w.alloc (.cells #[.int .i64 cB, .int .i64 cY, .int .i64 cF, .int .i64 cN, .int .i64 cU, .int .i64 cL, .int .i64 cKy, .int .i64 cV, .int .u32 (r : Int), .int .i64 t] 32)) := (Below.refl _ _).alloc (Nat.le_refl _) _
    generalize w.alloc (.cells #[.int .i64 cB, .int .i64 cY, .int .i64 cF, .int .i64 cN, .int .i64 cU, .int .i64 cL, .int .i64 cKy, .int .i64 cV, .int .u32 (r : Int), .int .i64 t] 32) = w1 at *
    obtain ⟨g, hg⟩ : ∃ g, g = w.heap.size := ⟨_, rfl⟩
    rw [← hg] at hx
    simp only [← hg]
    clear hg
    obtain ⟨g0, g1, g2, g3, g4, g5, g6, g7, g8, g9⟩ := box10 hx
    have HX := Lib.hid hx
    have HB := Lib.hid hb
    clear hx hb
    go_wp2_with (go_at_call 17; refine (cQ _).out.mono ?_; rintro e w2 ⟨rfl, hb⟩; replace HX := Lib.hid (kept3 HX.out hb); replace HB := Lib.hid (HB.out.trans (hb.mono HB.out.size)); clear hb cQ g0 g1 g2 g3 g4 g5 g6 g7 g8 g9; obtain ⟨g0, g1, g2, g3, g4, g5, g6, g7, g8, g9⟩ := box10 HX.out)
    go_ret
    exact ⟨rfl, HB.out⟩
end No
end Go.Proofs.Yteefkhgmcknbaaa
