/-
  head's laws: awake. Written by scripts/headlaw.py.
-/
import Derived.Test.YteefkhgmcknbaaaHeadC4
namespace Go.Proofs.Yteefkhgmcknbaaa
open Go.RowKit
namespace No
open Mem Bu
open Wd (be val be_length val_be)
def hH : Hdr := ⟨⟨9, 200, 8, 8, 16, 16, 2, 1⟩, 1, 1⟩
theorem h_ok : HdOk hH := by
  refine ⟨?_, by decide, by decide, by decide, by decide⟩
  unfold Cf.Right Cf.Shape Cf.few Cf.inn Cf.out hH
  decide
theorem h_block : (headL hH).length = 200 ∧ (headL hH).take 8 = magicL := by
  refine ⟨by rw [head_len h_ok]; rfl, ?_⟩
  unfold headL frontL
  rw [List.append_assoc]
  exact List.take_left' rfl
theorem h_zero : HdP (List.replicate 200 0) zeroHd false := .inr ⟨rfl, rfl, fun k hk => by
  have h1 : (headL k)[0]? = some 83 := rfl
  have h2 : (List.replicate 200 (0 : UInt8))[0]? = some 0 := rfl
  rw [hk.2, h2] at h1
  exact absurd (Option.some.inj h1) (by decide)⟩
set_option maxRecDepth 100000 in
set_option maxHeartbeats 4000000 in
theorem HAwake_any (W : World) : Calls Try.prog 10 #[] W fun e w' => e = .returned (.bool true) ∧ Below W.heap.size W w' := by
  obtain ⟨bl, hbl⟩ : ∃ b, b = headL hH := ⟨_, rfl⟩
  have hb8 : bl.take 8 = magicL := by rw [hbl]; exact h_block.2
  have hb200 : bl.length = 200 := by rw [hbl]; exact h_block.1
  have cE : ∀ w : World, Hid (Calls Try.prog 6 #[.agg #[.int .i64 9, .int .i64 200, .int .i64 8, .int .i64 8, .int .i64 16, .int .i64 16, .int .i64 2, .int .i64 1, .int .u32 1, .int .i64 1]] w fun e w' => (∃ A cap, e = .returned (.tuple #[.slice A 200 cap, .int .i64 0]) ∧ FrB w' w.heap.size A bl ∧ 200 ≤ cap) ∧ Below w.heap.size w w') := fun w => (HEncode_c hH (by decide) w (.inr ⟨h_ok, rfl, rfl⟩)).mono fun e w' ⟨⟨A, cap, he, h1, h2⟩, hb⟩ => by
    rw [← hbl, hb200] at he h2
    rw [← hbl] at h1
    exact ⟨⟨A, cap, he, h1, h2⟩, hb⟩
  have cD : ∀ (w : World) (A : Option Addr) (cap : Nat), BL w A bl → 200 ≤ cap → Hid (Calls Try.prog 12 #[.slice A 200 cap] w fun e w' => e = .returned (.tuple #[.agg #[.int .i64 9, .int .i64 200, .int .i64 8, .int .i64 8, .int .i64 16, .int .i64 16, .int .i64 2, .int .i64 1, .int .u32 1, .int .i64 1], .int .i64 0]) ∧ Below w.heap.size w w') := fun w A cap h hcap => by
    have h9 := HDecode_c (cap := cap) h (by omega) (by omega) hH true (.inl ⟨rfl, h_ok, hbl.symm⟩)
    rw [hb200] at h9
    exact h9
  obtain ⟨zz, hzz⟩ : ∃ z, z = List.replicate 200 (0 : UInt8) := ⟨_, rfl⟩
  have cDz : ∀ (w : World) (A : Option Addr), BL w A zz → Hid (Calls Try.prog 12 #[.slice A 200 200] w fun e w' => e = .returned (.tuple #[.agg #[.int .i64 0, .int .i64 0, .int .i64 0, .int .i64 0, .int .i64 0, .int .i64 0, .int .i64 0, .int .i64 0, .int .u32 0, .int .i64 0], .int .i64 12]) ∧ Below w.heap.size w w') := fun w A h => by
    subst hzz
    have h9 := HDecode_c (cap := 200) h (by simp) (by simp) zeroHd false h_zero
    rw [List.length_replicate] at h9
    exact h9
  have hmk : ∀ w, (Instr.makeSlice 27 (.int .i64 200) (.int .i64 200)).run Try.prog w = .ok (.slice (some ⟨w.heap.size, 0, none⟩) 200 200) (w.alloc (.cells (bytesV zz).toArray 5)) := fun w => by
    rw [hzz]
    exact Wd.run_makeBytes 200 (by decide) w
  have HTX : Hid (strOf (bl.take 8) = ⟨#[83, 76, 85, 73, 67, 69, 48, 49]⟩) := by
    unfold Hid
    rw [hb8]
    rfl
  have HL8 : Hid ((bl.take 8).length = 8) := by
    unfold Hid
    rw [hb8]
    rfl
  clear hb8 hb200 hbl hzz
  go_enter Try.func10, Try.ntmps10
  go_upto_region 2 with fail
  have hx := heap_alloc_new W (.cells #[.int .i64 9, .int .i64 200, .int .i64 8, .int .i64 8, .int .i64 16, .int .i64 16, .int .i64 2, .int .i64 1] 23)
  have hb0 : Below W.heap.size W (W.alloc (.cells #[.int .i64 9, .int .i64 200, .int .i64 8, .int .i64 8, .int .i64 16, .int .i64 16, .int .i64 2, .int .i64 1] 23)) := (Below.refl _ _).alloc (Nat.le_refl _) _
  generalize W.alloc (.cells #[.int .i64 9, .int .i64 200, .int .i64 8, .int .i64 8, .int .i64 16, .int .i64 16, .int .i64 2, .int .i64 1] 23) = w1 at *
  obtain ⟨g, hg⟩ : ∃ g, g = W.heap.size := ⟨_, rfl⟩
  simp only [← hg] at hx ⊢
  clear hg
  have HX := Lib.hid hx
  have HB := Lib.hid hb0
  clear hx hb0
  obtain ⟨g0, g1, g2, g3, g4, g5, g6, g7⟩ := Cf.box8 HX.out
  go_upto_region 3 with (go_at_call 6; refine (cE _).out.mono ?_; rintro e w2 ⟨⟨A, cap, rfl, hf, hcap⟩, hb⟩; replace HX := Lib.hid (kept3 HX.out hb); replace HB := Lib.hid (HB.out.trans (hb.mono HB.out.size)); have HF := Lib.hid hf.bl; clear hf hb cE g0 g1 g2 g3 g4 g5 g6 g7)
  go_upto_region 4 with (go_at_call 12; refine (cD _ _ _ HF.out hcap).out.mono ?_; rintro e w3 ⟨rfl, hb⟩; replace HX := Lib.hid (kept3 HX.out hb); replace HB := Lib.hid (HB.out.trans (hb.mono HB.out.size)); replace HF := Lib.hid (HF.out.below hb); clear hb cD)
  have hm := heap_alloc_new w3 (.cells #[.int .i64 9, .int .i64 200, .int .i64 8, .int .i64 8, .int .i64 16, .int .i64 16, .int .i64 2, .int .i64 1, .int .u32 1, .int .i64 1] 26)
  have hbm : Below w3.heap.size w3 (w3.alloc (.cells #[.int .i64 9, .int .i64 200, .int .i64 8, .int .i64 8, .int .i64 16, .int .i64 16, .int .i64 2, .int .i64 1, .int .u32 1, .int .i64 1] 26)) := (Below.refl _ _).alloc (Nat.le_refl _) _
  generalize w3.alloc (.cells #[.int .i64 9, .int .i64 200, .int .i64 8, .int .i64 8, .int .i64 16, .int .i64 16, .int .i64 2, .int .i64 1, .int .u32 1, .int .i64 1] 26) = w4 at *
  obtain ⟨q, hq⟩ : ∃ q, q = w3.heap.size := ⟨_, rfl⟩
  simp only [← hq] at hm ⊢
  clear hq
  replace HX := Lib.hid (kept3 HX.out hbm)
  replace HB := Lib.hid (HB.out.trans (hbm.mono HB.out.size))
  replace HF := Lib.hid (HF.out.below hbm)
  have HM := Lib.hid hm
  have hrow := Row.new 5 w4 zz
  have hbz : Below w4.heap.size w4 (w4.alloc (.cells (bytesV zz).toArray 5)) := (Below.refl _ _).alloc (Nat.le_refl _) _
  have hmk1 := hmk w4
  generalize w4.alloc (.cells (bytesV zz).toArray 5) = w5 at *
  replace HX := Lib.hid (kept3 HX.out hbz)
  replace HM := Lib.hid (kept3 HM.out hbz)
  replace HB := Lib.hid (HB.out.trans (hbz.mono HB.out.size))
  replace HF := Lib.hid (HF.out.below hbz)
  have HZ := Lib.hid hrow.bl
  clear hm hbm hrow hbz hmk
  go_upto_region 5 with (go_at_call 12; refine (cDz _ _ HZ.out).out.mono ?_; rintro e w6 ⟨rfl, hb⟩; replace HX := Lib.hid (kept3 HX.out hb); replace HM := Lib.hid (kept3 HM.out hb); replace HB := Lib.hid (HB.out.trans (hb.mono HB.out.size)); replace HF := Lib.hid (HF.out.below hb); clear hb cDz hmk1 HZ)
  have hbm : Below w6.heap.size w6 (w6.alloc (.cells #[.int .i64 0, .int .i64 0, .int .i64 0, .int .i64 0, .int .i64 0, .int .i64 0, .int .i64 0, .int .i64 0, .int .u32 0, .int .i64 0] 26)) := (Below.refl _ _).alloc (Nat.le_refl _) _
  generalize w6.alloc (.cells #[.int .i64 0, .int .i64 0, .int .i64 0, .int .i64 0, .int .i64 0, .int .i64 0, .int .i64 0, .int .i64 0, .int .u32 0, .int .i64 0] 26) = w7 at *
  replace HX := Lib.hid (kept3 HX.out hbm)
  replace HM := Lib.hid (kept3 HM.out hbm)
  replace HB := Lib.hid (HB.out.trans (hbm.mono HB.out.size))
  replace HF := Lib.hid (HF.out.below hbm)
  clear hbm
  obtain ⟨g0, g1, g2, g3, g4, g5, g6, g7⟩ := Cf.box8 HX.out
  obtain ⟨d0, d1, d2, d3, d4, d5, d6, d7, d8, d9⟩ := box10 HM.out
  obtain ⟨i0, hi0, -, -, -⟩ := info_parts Wd.u8info
  have r8 : ∀ w, (Instr.slice 27 (.slice A 200 cap) none (some (.int .i64 8)) none).run Try.prog w = .ok (.slice A 8 cap) w := fun w => run_upTo (P := Try.prog) Try.underlying27 hi0 A 200 cap 8 (by omega) w
  have rt := run_text_n (P := Try.prog) Try.underlying27 Try.underlying5 Try.underlying9 (HF.out.take 8) HL8.out cap
  rw [HTX.out] at rt
  clear hi0 HF HL8 HTX HX HM
  go_wp2_with fail
  go_ret
  exact ⟨rfl, HB.out⟩
end No
end Go.Proofs.Yteefkhgmcknbaaa
