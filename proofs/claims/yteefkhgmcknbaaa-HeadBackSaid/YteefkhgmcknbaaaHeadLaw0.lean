/-
  head's laws: heads held against each other, as, what Encode and Decode tell. Written by scripts/headlaw.py.
-/
import Derived.Test.YteefkhgmcknbaaaHeadR3
import Derived.Test.YteefkhgmcknbaaaFrB
namespace Go.Proofs.Yteefkhgmcknbaaa
open Go.RowKit
namespace No
open Mem Bu
open Wd (be val be_length val_be)
/-- what Encode tells -/
def HEncP (h : Hdr) (s : List UInt8) (f : Int) : Prop := (¬ HdOk h ∧ s = [] ∧ f = 2) ∨ (HdOk h ∧ s = headL h ∧ f = 0)
theorem HEncP.some (h : Hdr) : ∃ s f, HEncP h s f := by
  by_cases h1 : HdOk h
  · exact ⟨_, _, .inr ⟨h1, rfl, rfl⟩⟩
  · exact ⟨_, _, .inl ⟨h1, rfl, rfl⟩⟩
theorem HEncP.one {h : Hdr} {s s' : List UInt8} {f f' : Int} (h1 : HEncP h s f) (h2 : HEncP h s' f') : s = s' ∧ f = f' := by
  rcases h1 with ⟨a, rfl, rfl⟩ | ⟨a, rfl, rfl⟩ <;> rcases h2 with ⟨b, rfl, rfl⟩ | ⟨b, rfl, rfl⟩ <;> first | exact ⟨rfl, rfl⟩ | exact absurd a b | exact absurd b a
/-- what Decode tells by its error -/
def okE (p : Bool) : Int := if p then 0 else 12
set_option maxRecDepth 100000 in
set_option maxHeartbeats 4000000 in
theorem eq_hd (h k : Hdr) (B : Bool) (hB : B = true ↔ h = k) (w : World) : (binOp .eql 26 (.agg (hdCs h)) (.agg (hdCs k))).run Try.prog w = .ok (.bool B) w := by
  obtain ⟨⟨cB, cY, cF, cN, cU, cL, cKy, cV⟩, r, t⟩ := h
  obtain ⟨⟨cB', cY', cF', cN', cU', cL', cKy', cV'⟩, r', t'⟩ := k
  unfold hdCs
  simp only [Hdr.mk.injEq, Cfg.mk.injEq] at hB ⊢
  by_cases h0 : cB = cB'
  case neg =>
    obtain rfl : B = false := by
      cases B
      · rfl
      · exact absurd (hB.1 rfl) (by simp [h0])
    simp [go_sem, h0]
  subst h0
  by_cases h1 : cY = cY'
  case neg =>
    obtain rfl : B = false := by
      cases B
      · rfl
      · exact absurd (hB.1 rfl) (by simp [h1])
    simp [go_sem, h1]
  subst h1
  by_cases h2 : cF = cF'
  case neg =>
    obtain rfl : B = false := by
      cases B
      · rfl
      · exact absurd (hB.1 rfl) (by simp [h2])
    simp [go_sem, h2]
  subst h2
  by_cases h3 : cN = cN'
  case neg =>
    obtain rfl : B = false := by
      cases B
      · rfl
      · exact absurd (hB.1 rfl) (by simp [h3])
    simp [go_sem, h3]
  subst h3
  by_cases h4 : cU = cU'
  case neg =>
    obtain rfl : B = false := by
      cases B
      · rfl
      · exact absurd (hB.1 rfl) (by simp [h4])
    simp [go_sem, h4]
  subst h4
  by_cases h5 : cL = cL'
  case neg =>
    obtain rfl : B = false := by
      cases B
      · rfl
      · exact absurd (hB.1 rfl) (by simp [h5])
    simp [go_sem, h5]
  subst h5
  by_cases h6 : cKy = cKy'
  case neg =>
    obtain rfl : B = false := by
      cases B
      · rfl
      · exact absurd (hB.1 rfl) (by simp [h6])
    simp [go_sem, h6]
  subst h6
  by_cases h7 : cV = cV'
  case neg =>
    obtain rfl : B = false := by
      cases B
      · rfl
      · exact absurd (hB.1 rfl) (by simp [h7])
    simp [go_sem, h7]
  subst h7
  by_cases h8 : r = r'
  case neg =>
    obtain rfl : B = false := by
      cases B
      · rfl
      · exact absurd (hB.1 rfl) (by simp [h8])
    simp [go_sem]
    intro h; exact absurd (by omega) h8
  subst h8
  by_cases h9 : t = t'
  case neg =>
    obtain rfl : B = false := by
      cases B
      · rfl
      · exact absurd (hB.1 rfl) (by simp [h9])
    simp [go_sem, h9]
  subst h9
  obtain rfl : B = true := hB.2 (by simp)
  simp [go_sem]
set_option maxRecDepth 100000 in
set_option maxHeartbeats 4000000 in
theorem ne_hd (h k : Hdr) (B : Bool) (hB : B = true ↔ h = k) (w : World) : (binOp .neq 26 (.agg (hdCs h)) (.agg (hdCs k))).run Try.prog w = .ok (.bool (!B)) w := by
  obtain ⟨⟨cB, cY, cF, cN, cU, cL, cKy, cV⟩, r, t⟩ := h
  obtain ⟨⟨cB', cY', cF', cN', cU', cL', cKy', cV'⟩, r', t'⟩ := k
  unfold hdCs
  simp only [Hdr.mk.injEq, Cfg.mk.injEq] at hB ⊢
  by_cases h0 : cB = cB'
  case neg =>
    obtain rfl : B = false := by
      cases B
      · rfl
      · exact absurd (hB.1 rfl) (by simp [h0])
    simp [go_sem, h0]
  subst h0
  by_cases h1 : cY = cY'
  case neg =>
    obtain rfl : B = false := by
      cases B
      · rfl
      · exact absurd (hB.1 rfl) (by simp [h1])
    simp [go_sem, h1]
  subst h1
  by_cases h2 : cF = cF'
  case neg =>
    obtain rfl : B = false := by
      cases B
      · rfl
      · exact absurd (hB.1 rfl) (by simp [h2])
    simp [go_sem, h2]
  subst h2
  by_cases h3 : cN = cN'
  case neg =>
    obtain rfl : B = false := by
      cases B
      · rfl
      · exact absurd (hB.1 rfl) (by simp [h3])
    simp [go_sem, h3]
  subst h3
  by_cases h4 : cU = cU'
  case neg =>
    obtain rfl : B = false := by
      cases B
      · rfl
      · exact absurd (hB.1 rfl) (by simp [h4])
    simp [go_sem, h4]
  subst h4
  by_cases h5 : cL = cL'
  case neg =>
    obtain rfl : B = false := by
      cases B
      · rfl
      · exact absurd (hB.1 rfl) (by simp [h5])
    simp [go_sem, h5]
  subst h5
  by_cases h6 : cKy = cKy'
  case neg =>
    obtain rfl : B = false := by
      cases B
      · rfl
      · exact absurd (hB.1 rfl) (by simp [h6])
    simp [go_sem, h6]
  subst h6
  by_cases h7 : cV = cV'
  case neg =>
    obtain rfl : B = false := by
      cases B
      · rfl
      · exact absurd (hB.1 rfl) (by simp [h7])
    simp [go_sem, h7]
  subst h7
  by_cases h8 : r = r'
  case neg =>
    obtain rfl : B = false := by
      cases B
      · rfl
      · exact absurd (hB.1 rfl) (by simp [h8])
    simp [go_sem]
    intro h; exact absurd (by omega) h8
  subst h8
  by_cases h9 : t = t'
  case neg =>
    obtain rfl : B = false := by
      cases B
      · rfl
      · exact absurd (hB.1 rfl) (by simp [h9])
    simp [go_sem, h9]
  subst h9
  obtain rfl : B = true := hB.2 (by simp)
  simp [go_sem]
set_option maxRecDepth 100000 in
set_option maxHeartbeats 4000000 in
theorem eq_hr (h k : Hdr) (B : Bool) (hB : B = true ↔ h = k) (w : World) : (binOp .eql 32 (.agg (hdCs h)) (.agg (hdCs k))).run Try.prog w = .ok (.bool B) w := by
  obtain ⟨⟨cB, cY, cF, cN, cU, cL, cKy, cV⟩, r, t⟩ := h
  obtain ⟨⟨cB', cY', cF', cN', cU', cL', cKy', cV'⟩, r', t'⟩ := k
  unfold hdCs
  simp only [Hdr.mk.injEq, Cfg.mk.injEq] at hB ⊢
  by_cases h0 : cB = cB'
  case neg =>
    obtain rfl : B = false := by
      cases B
      · rfl
      · exact absurd (hB.1 rfl) (by simp [h0])
    simp [go_sem, h0]
  subst h0
  by_cases h1 : cY = cY'
  case neg =>
    obtain rfl : B = false := by
      cases B
      · rfl
      · exact absurd (hB.1 rfl) (by simp [h1])
    simp [go_sem, h1]
  subst h1
  by_cases h2 : cF = cF'
  case neg =>
    obtain rfl : B = false := by
      cases B
      · rfl
      · exact absurd (hB.1 rfl) (by simp [h2])
    simp [go_sem, h2]
  subst h2
  by_cases h3 : cN = cN'
  case neg =>
    obtain rfl : B = false := by
      cases B
      · rfl
      · exact absurd (hB.1 rfl) (by simp [h3])
    simp [go_sem, h3]
  subst h3
  by_cases h4 : cU = cU'
  case neg =>
    obtain rfl : B = false := by
      cases B
      · rfl
      · exact absurd (hB.1 rfl) (by simp [h4])
    simp [go_sem, h4]
  subst h4
  by_cases h5 : cL = cL'
  case neg =>
    obtain rfl : B = false := by
      cases B
      · rfl
      · exact absurd (hB.1 rfl) (by simp [h5])
    simp [go_sem, h5]
  subst h5
  by_cases h6 : cKy = cKy'
  case neg =>
    obtain rfl : B = false := by
      cases B
      · rfl
      · exact absurd (hB.1 rfl) (by simp [h6])
    simp [go_sem, h6]
  subst h6
  by_cases h7 : cV = cV'
  case neg =>
    obtain rfl : B = false := by
      cases B
      · rfl
      · exact absurd (hB.1 rfl) (by simp [h7])
    simp [go_sem, h7]
  subst h7
  by_cases h8 : r = r'
  case neg =>
    obtain rfl : B = false := by
      cases B
      · rfl
      · exact absurd (hB.1 rfl) (by simp [h8])
    simp [go_sem]
    intro h; exact absurd (by omega) h8
  subst h8
  by_cases h9 : t = t'
  case neg =>
    obtain rfl : B = false := by
      cases B
      · rfl
      · exact absurd (hB.1 rfl) (by simp [h9])
    simp [go_sem, h9]
  subst h9
  obtain rfl : B = true := hB.2 (by simp)
  simp [go_sem]
set_option maxRecDepth 100000 in
set_option maxHeartbeats 4000000 in
theorem As_any (h : Hdr) (W : World) : Calls Try.prog 8 #[.agg (hdCs h)] W fun e w' => e = .returned (.agg (hdCs h)) ∧ Below W.heap.size W w' := by
  obtain ⟨⟨cB, cY, cF, cN, cU, cL, cKy, cV⟩, r, t⟩ := h
  unfold hdCs
  simp only
  go_enter Try.func8, Try.ntmps8
  go_upto_region 1 with fail
  obtain ⟨h1, h2, hb⟩ := two_new W (.cells #[.int .i64 cB, .int .i64 cY, .int .i64 cF, .int .i64 cN, .int .i64 cU, .int .i64 cL, .int .i64 cKy, .int .i64 cV, .int .u32 (r : Int), .int .i64 t] 26) (.cells #[.int .i64 0, .int .i64 0, .int .i64 0, .int .i64 0, .int .i64 0, .int .i64 0, .int .i64 0, .int .i64 0, .int .u32 0, .int .i64 0] 32)
  generalize (W.alloc (.cells #[.int .i64 cB, .int .i64 cY, .int .i64 cF, .int .i64 cN, .int .i64 cU, .int .i64 cL, .int .i64 cKy, .int .i64 cV, .int .u32 (r : Int), .int .i64 t] 26)).alloc (.cells #[.int .i64 0, .int .i64 0, .int .i64 0, .int .i64 0, .int .i64 0, .int .i64 0, .int .i64 0, .int .i64 0, .int .u32 0, .int .i64 0] 32) = w1 at *
  obtain ⟨g, hg⟩ : ∃ g, g = W.heap.size := ⟨_, rfl⟩
  have HWG : Hid (W.heap.size ≤ g + 1) := by unfold Hid; omega
  rw [← hg] at h1 h2
  simp only [← hg]
  obtain ⟨d0, d1, d2, d3, d4, d5, d6, d7, d8, d9⟩ := box10 h1
  obtain ⟨y0, y1, y2, y3, y4, y5, y6, y7, y8, y9⟩ := box10 h2
  have fz := free10 h2
  have HU := Lib.hid (set10_at h2 (.int .i64 cB) (.int .i64 cY) (.int .i64 cF) (.int .i64 cN) (.int .i64 cU) (.int .i64 cL) (.int .i64 cKy) (.int .i64 cV) (.int .u32 (r : Int)) (.int .i64 t))
  have HBW := Lib.hid (below_set10 hb HWG.out (.int .i64 cB) (.int .i64 cY) (.int .i64 cF) (.int .i64 cN) (.int .i64 cU) (.int .i64 cL) (.int .i64 cKy) (.int .i64 cV) (.int .u32 (r : Int)) (.int .i64 t))
  unfold set10 at HU HBW
  clear hb h1 h2 hg
  go_wp2_with fail
  generalize (((((((((w1.setCell ⟨g + 1, 0, none⟩ (.int .i64 cB)).setCell ⟨g + 1, 1, none⟩ (.int .i64 cY)).setCell ⟨g + 1, 2, none⟩ (.int .i64 cF)).setCell ⟨g + 1, 3, none⟩ (.int .i64 cN)).setCell ⟨g + 1, 4, none⟩ (.int .i64 cU)).setCell ⟨g + 1, 5, none⟩ (.int .i64 cL)).setCell ⟨g + 1, 6, none⟩ (.int .i64 cKy)).setCell ⟨g + 1, 7, none⟩ (.int .i64 cV)).setCell ⟨g + 1, 8, none⟩ (.int .u32 (r : Int))).setCell ⟨g + 1, 9, none⟩ (.int .i64 t) = w91 at *
  clear y0 y1 y2 y3 y4 y5 y6 y7 y8 y9 fz d0 d1 d2 d3 d4 d5 d6 d7 d8 d9
  obtain ⟨y0, y1, y2, y3, y4, y5, y6, y7, y8, y9⟩ := box10 HU.out
  exact bodyPost_ret (v := .agg #[.int .i64 cB, .int .i64 cY, .int .i64 cF, .int .i64 cN, .int .i64 cU, .int .i64 cL, .int .i64 cKy, .int .i64 cV, .int .u32 (r : Int), .int .i64 t]) (by simp [results, Try.results8, go_sem, y0, y1, y2, y3, y4, y5, y6, y7, y8, y9]) rfl ⟨rfl, HBW.out⟩
end No
end Go.Proofs.Yteefkhgmcknbaaa
