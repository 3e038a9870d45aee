/-
  HeadBack. Written by scripts/headlaws.py.
-/
import Derived.Test.YteefkhgmcknbaaaHeadLaw
namespace Go.Proofs.Yteefkhgmcknbaaa
open Go.RowKit
namespace No
open Mem Bu
open Wd (be val be_length val_be)
set_option maxRecDepth 100000 in
set_option maxHeartbeats 8000000 in
theorem HeadBack_walk (cB cY cF cN cU cL cKy cV : Int) (r : Nat) (t : Int) (at_ by_ : Nat) (W : World) (hr : r < 4294967296) (hat : at_ < 65536) (hby : by_ < 256) : Calls Try.prog 5 #[.agg #[.int .i64 cB, .int .i64 cY, .int .i64 cF, .int .i64 cN, .int .i64 cU, .int .i64 cL, .int .i64 cKy, .int .i64 cV, .int .u32 (r : Int), .int .i64 t], .int .u16 (at_ : Int), .int .u8 (by_ : Int)] W fun e w' => e = .returned (.bool true) ∧ Below W.heap.size W w' := by
  have cA := fun w => Lib.hid (HAwake_any w)
  by_cases hok : HdOk ⟨⟨cB, cY, cF, cN, cU, cL, cKy, cV⟩, r, t⟩
  case neg =>
    have cRR : ∀ w, Hid (Calls Try.prog 7 #[.agg #[.int .i64 cB, .int .i64 cY, .int .i64 cF, .int .i64 cN, .int .i64 cU, .int .i64 cL, .int .i64 cKy, .int .i64 cV, .int .u32 (r : Int), .int .i64 t]] w fun e w' => e = .returned (.bool false) ∧ Below w.heap.size w w') := fun w => RHRight_any ⟨⟨cB, cY, cF, cN, cU, cL, cKy, cV⟩, r, t⟩ hr w false ⟨fun h => (by cases h), fun h => absurd h hok⟩
    have cAs : ∀ w, Hid (Calls Try.prog 8 #[.agg #[.int .i64 cB, .int .i64 cY, .int .i64 cF, .int .i64 cN, .int .i64 cU, .int .i64 cL, .int .i64 cKy, .int .i64 cV, .int .u32 (r : Int), .int .i64 t]] w fun e w' => e = .returned (.agg #[.int .i64 cB, .int .i64 cY, .int .i64 cF, .int .i64 cN, .int .i64 cU, .int .i64 cL, .int .i64 cKy, .int .i64 cV, .int .u32 (r : Int), .int .i64 t]) ∧ Below w.heap.size w w') := fun w => As_any ⟨⟨cB, cY, cF, cN, cU, cL, cKy, cV⟩, r, t⟩ w
    have cE : ∀ w, Hid (Calls Try.prog 6 #[.agg #[.int .i64 cB, .int .i64 cY, .int .i64 cF, .int .i64 cN, .int .i64 cU, .int .i64 cL, .int .i64 cKy, .int .i64 cV, .int .u32 (r : Int), .int .i64 t]] w fun e w' => (∃ A cap, e = .returned (.tuple #[.slice A 0 cap, .int .i64 2])) ∧ Below w.heap.size w w') := fun w => (HEncode_c ⟨⟨cB, cY, cF, cN, cU, cL, cKy, cV⟩, r, t⟩ hr w (.inl ⟨hok, rfl, rfl⟩)).mono fun e w' ⟨⟨A, cap, he, _, _⟩, hb⟩ => ⟨⟨A, cap, he⟩, hb⟩
    clear hok hr hat hby
    go_enter Try.func5, Try.ntmps5
    go_upto_region 1 with fail
    have hx := heap_alloc_new W (.cells #[.int .i64 cB, .int .i64 cY, .int .i64 cF, .int .i64 cN, .int .i64 cU, .int .i64 cL, .int .i64 cKy, .int .i64 cV, .int .u32 (r : Int), .int .i64 t] 26)
    have hb0 : Below W.heap.size W (W.alloc (.cells #[.int .i64 cB, .int .i64 cY, .int .i64 cF, .int .i64 cN, .int .i64 cU, .int .i64 cL, .int .i64 cKy, .int .i64 cV, .int .u32 (r : Int), .int .i64 t] 26)) := (Below.refl _ _).alloc (Nat.le_refl _) _
    generalize W.alloc (.cells #[.int .i64 cB, .int .i64 cY, .int .i64 cF, .int .i64 cN, .int .i64 cU, .int .i64 cL, .int .i64 cKy, .int .i64 cV, .int .u32 (r : Int), .int .i64 t] 26) = w1 at *
    obtain ⟨g, hg⟩ : ∃ g, g = W.heap.size := ⟨_, rfl⟩
    rw [← hg] at hx
    simp only [← hg]
    have HX := Lib.hid hx
    have HB := Lib.hid hb0
    clear hx hb0 hg
    obtain ⟨d0, d1, d2, d3, d4, d5, d6, d7, d8, d9⟩ := box10 HX.out
    go_upto_region 2 with (go_at_call 6; refine (cE _).out.mono ?_; rintro e w2 ⟨⟨A, cap, rfl⟩, hb⟩; replace HX := Lib.hid (kept3 HX.out hb); replace HB := Lib.hid (HB.out.trans (hb.mono HB.out.size)); clear hb cE d0 d1 d2 d3 d4 d5 d6 d7 d8 d9; obtain ⟨d0, d1, d2, d3, d4, d5, d6, d7, d8, d9⟩ := box10 HX.out)
    go_wp2_with (first
      | (go_at_call 8; refine (cAs _).out.mono ?_; rintro e w3 ⟨rfl, hb⟩; replace HX := Lib.hid (kept3 HX.out hb); replace HB := Lib.hid (HB.out.trans (hb.mono HB.out.size)); clear hb cAs d0 d1 d2 d3 d4 d5 d6 d7 d8 d9)
      | (go_at_call 7; refine (cRR _).out.mono ?_; rintro e w4 ⟨rfl, hb⟩; replace HX := Lib.hid (kept3 HX.out hb); replace HB := Lib.hid (HB.out.trans (hb.mono HB.out.size)); clear hb cRR)
      | (go_at_call 10; refine (cA _).out.mono ?_; rintro e w6 ⟨rfl, hb⟩; replace HX := Lib.hid (kept3 HX.out hb); replace HB := Lib.hid (HB.out.trans (hb.mono HB.out.size)); clear hb ))
    go_ret
    exact ⟨rfl, HB.out⟩
  have hyb := hd_bytes hok
  have hhl := head_len hok
  obtain ⟨s, hse⟩ : ∃ s, s = headL ⟨⟨cB, cY, cF, cN, cU, cL, cKy, cV⟩, r, t⟩ := ⟨_, rfl⟩
  rw [← hse] at hhl
  obtain ⟨sl, hsl⟩ : ∃ m, m = s.length := ⟨_, rfl⟩
  have hsl0 : 64 ≤ sl := by simp only at hyb hhl; omega
  have hsl1 : sl ≤ 65536 := by simp only at hyb hhl; omega
  obtain ⟨k, hk⟩ : ∃ k, k = at_ % sl := ⟨_, rfl⟩
  have hks : k < sl := by rw [hk]; exact Nat.mod_lt _ (by omega)
  have hks' : k < s.length := by rw [← hsl]; exact hks
  obtain ⟨x8, hx8⟩ : ∃ x, x = s[k] := ⟨_, rfl⟩
  obtain ⟨y8, hy8⟩ : ∃ y : UInt8, y = UInt8.ofNat ((x8.toNat + by_) % 256) := ⟨_, rfl⟩
  have hyv : y8.toNat = (x8.toNat + by_) % 256 := by rw [hy8]; simp
  have hyx : y8 = x8 ↔ by_ = 0 := by
    constructor
    · intro h
      have h9 := congrArg UInt8.toNat h
      have := x8.toNat_lt
      rw [hyv] at h9
      omega
    · rintro rfl
      apply UInt8.toNat_inj.1
      have := x8.toNat_lt
      rw [hyv]
      omega
  obtain ⟨k2, p2, hd2⟩ := HdP.some (s.set k y8)
  have hp2 : p2 = decide (by_ = 0) := by
    by_cases h0 : by_ = 0
    · have h9 : s.set k y8 = s := by
        rw [hyx.2 h0, hx8, List.set_getElem_self]
      rw [h9] at hd2
      obtain ⟨-, h8⟩ := hd2.one (.inl ⟨rfl, hok, hse.symm⟩)
      rw [h8, decide_eq_true h0]
    · rw [decide_eq_false h0]
      rcases hd2 with ⟨-, h1, h2⟩ | ⟨h1, -⟩
      · have h9 := head_shows hok h1 (i := k) (by rw [← hse]; exact hks') y8 (by rw [h2, hse])
        have h7 : y8 = x8 := by
          rw [h9, hx8]
          simp only [hse]
        exact absurd (hyx.1 h7) h0
      · exact h1
  have hl2 : (s.set k y8).length = sl := by rw [List.length_set, hsl]
  have cE : ∀ w, Hid (Calls Try.prog 6 #[.agg #[.int .i64 cB, .int .i64 cY, .int .i64 cF, .int .i64 cN, .int .i64 cU, .int .i64 cL, .int .i64 cKy, .int .i64 cV, .int .u32 (r : Int), .int .i64 t]] w fun e w' => (∃ A cap, e = .returned (.tuple #[.slice A sl cap, .int .i64 0]) ∧ FrB w' w.heap.size A s ∧ sl ≤ cap) ∧ Below w.heap.size w w') := fun w => by
    rw [hsl, hse]
    exact HEncode_c ⟨⟨cB, cY, cF, cN, cU, cL, cKy, cV⟩, r, t⟩ hr w (.inr ⟨hok, rfl, rfl⟩)
  have cD : ∀ w A cap, BL w A s → sl ≤ cap → Hid (Calls Try.prog 12 #[.slice A sl cap] w fun e w' => e = .returned (.tuple #[.agg #[.int .i64 cB, .int .i64 cY, .int .i64 cF, .int .i64 cN, .int .i64 cU, .int .i64 cL, .int .i64 cKy, .int .i64 cV, .int .u32 (r : Int), .int .i64 t], .int .i64 0]) ∧ Below w.heap.size w w') := fun w A cap hA hc => by
    have h9 := HDecode_c hA (by omega) (by omega : s.length ≤ cap) ⟨⟨cB, cY, cF, cN, cU, cL, cKy, cV⟩, r, t⟩ true (.inl ⟨rfl, hok, hse.symm⟩)
    rw [← hsl] at h9
    exact h9
  have cD2 : ∀ w A cap, BL w A (s.set k y8) → sl ≤ cap → Hid (Calls Try.prog 12 #[.slice A sl cap] w fun e w' => e = .returned (.tuple #[.agg (hdCs k2), .int .i64 (okE p2)]) ∧ Below w.heap.size w w') := fun w A cap hA hc => by
    have h9 := HDecode_c hA (by omega) (by omega : (s.set k y8).length ≤ cap) k2 p2 hd2
    rw [hl2] at h9
    exact h9
  have hne := ne_hd ⟨⟨cB, cY, cF, cN, cU, cL, cKy, cV⟩, r, t⟩ ⟨⟨cB, cY, cF, cN, cU, cL, cKy, cV⟩, r, t⟩ true (by simp)
  have HMOD : Hid ((at_ : Int).tmod (sl : Int) = (k : Int)) := by
    unfold Hid
    rw [hk, Int.tmod_eq_emod_of_nonneg (Int.natCast_nonneg _)]
    rfl
  have HX8 : Hid (∀ w : World, ∀ g o : Nat, BL w (some ⟨g, o, none⟩) s → w.cell? ⟨g, o + k, none⟩ = some (.int .u8 (x8.toNat : Int))) := fun w g o hb => by
    obtain ⟨b', o', e, hc⟩ := hb (by omega)
    cases e
    rw [hc k hks', hx8]
    rfl
  have HSET : Hid (∀ w : World, ∀ g o : Nat, ∀ C : Array Value, BL w (some ⟨g, o, none⟩) s → w.heap[g]? = some (.cells C 5 (0, 0)) → BL (w.setCell ⟨g, o + k, none⟩ (.int .u8 (y8.toNat : Int))) (some ⟨g, o, none⟩) (s.set k y8)) := fun w g o C hb hx => bl_set hb hx hks' y8
  have HS0 : Hid (0 < s.length) := by unfold Hid; omega
  have HYV := Lib.hid hyv
  have HP2 := Lib.hid hp2
  clear hd2 hp2 hl2 hse hhl hyb hok hr hyx hy8 hyv hx8 hks' hk hsl
  unfold hdCs at hne
  simp only at hne
  go_enter Try.func5, Try.ntmps5
  go_upto_region 1 with fail
  have hx := heap_alloc_new W (.cells #[.int .i64 cB, .int .i64 cY, .int .i64 cF, .int .i64 cN, .int .i64 cU, .int .i64 cL, .int .i64 cKy, .int .i64 cV, .int .u32 (r : Int), .int .i64 t] 26)
  have hb0 : Below W.heap.size W (W.alloc (.cells #[.int .i64 cB, .int .i64 cY, .int .i64 cF, .int .i64 cN, .int .i64 cU, .int .i64 cL, .int .i64 cKy, .int .i64 cV, .int .u32 (r : Int), .int .i64 t] 26)) := (Below.refl _ _).alloc (Nat.le_refl _) _
  generalize W.alloc (.cells #[.int .i64 cB, .int .i64 cY, .int .i64 cF, .int .i64 cN, .int .i64 cU, .int .i64 cL, .int .i64 cKy, .int .i64 cV, .int .u32 (r : Int), .int .i64 t] 26) = w1 at *
  obtain ⟨g, hg⟩ : ∃ g, g = W.heap.size := ⟨_, rfl⟩
  rw [← hg] at hx
  simp only [← hg]
  have HX := Lib.hid hx
  have HB := Lib.hid hb0
  have HGW : Hid (g = W.heap.size) := hg
  clear hx hb0 hg
  obtain ⟨d0, d1, d2, d3, d4, d5, d6, d7, d8, d9⟩ := box10 HX.out
  go_upto_region 2 with (go_at_call 6; refine (cE _).out.mono ?_; rintro e w2 ⟨⟨A, cap, rfl, hf, hcap⟩, hb⟩; have HFB := Lib.hid hf; have HG1 := Lib.hid (Array.getElem?_eq_some_iff.1 HX.out).1; replace HX := Lib.hid (kept3 HX.out hb); replace HB := Lib.hid (HB.out.trans (hb.mono HB.out.size)); clear hf hb cE d0 d1 d2 d3 d4 d5 d6 d7 d8 d9; obtain ⟨d0, d1, d2, d3, d4, d5, d6, d7, d8, d9⟩ := box10 HX.out)
  obtain ⟨gb, o, C, rfl, hgB, hgC⟩ := HFB.out.own HS0.out
  have HGB : Hid (g < gb) := Nat.lt_of_lt_of_le HG1.out hgB
  go_upto_region 4 with fail
  go_upto_region 5 with (go_at_call 12; refine (cD _ _ _ HFB.out.bl hcap).out.mono ?_; rintro e w3 ⟨rfl, hb⟩; replace hgC := kept3 hgC hb; replace HX := Lib.hid (kept3 HX.out hb); replace HB := Lib.hid (HB.out.trans (hb.mono HB.out.size)); replace HFB := Lib.hid (HFB.out.kept hb); clear hb cD d0 d1 d2 d3 d4 d5 d6 d7 d8 d9; obtain ⟨d0, d1, d2, d3, d4, d5, d6, d7, d8, d9⟩ := box10 HX.out)
  have HGC := Lib.hid hgC
  clear hgC hgB
  have hx := heap_alloc_new w3 (.cells #[.int .i64 cB, .int .i64 cY, .int .i64 cF, .int .i64 cN, .int .i64 cU, .int .i64 cL, .int .i64 cKy, .int .i64 cV, .int .u32 (r : Int), .int .i64 t] 26)
  have hb0 : Below w3.heap.size w3 (w3.alloc (.cells #[.int .i64 cB, .int .i64 cY, .int .i64 cF, .int .i64 cN, .int .i64 cU, .int .i64 cL, .int .i64 cKy, .int .i64 cV, .int .u32 (r : Int), .int .i64 t] 26)) := (Below.refl _ _).alloc (Nat.le_refl _) _
  generalize w3.alloc (.cells #[.int .i64 cB, .int .i64 cY, .int .i64 cF, .int .i64 cN, .int .i64 cU, .int .i64 cL, .int .i64 cKy, .int .i64 cV, .int .u32 (r : Int), .int .i64 t] 26) = w4 at *
  obtain ⟨q, hg⟩ : ∃ g, g = w3.heap.size := ⟨_, rfl⟩
  rw [← hg] at hx
  simp only [← hg]
  replace HX := Lib.hid (kept3 HX.out hb0)
  replace HB := Lib.hid (HB.out.trans (hb0.mono HB.out.size))
  replace HFB := Lib.hid (HFB.out.kept hb0)
  replace HGC := Lib.hid (kept3 HGC.out hb0)
  have HY := Lib.hid hx
  clear hx hb0 hg d0 d1 d2 d3 d4 d5 d6 d7 d8 d9
  obtain ⟨d0, d1, d2, d3, d4, d5, d6, d7, d8, d9⟩ := box10 HX.out
  obtain ⟨y0, y1, y2, y3, y4, y5, y6, y7, y8, y9⟩ := box10 HY.out
  have hs0 : ((sl : Int) == 0) = false := by
    have h9 : (sl : Int) ≠ 0 := by omega
    simpa using h9
  go_upto_region 7 with fail
  clear hne hs0 d0 d1 d2 d3 d4 d5 d6 d7 d8 d9 y0 y1 y2 y3 y4 y5 y6 y7 y8 y9
  have hmod := HMOD.out
  have hs0 : ((sl : Int) == 0) = false := by
    have h9 : (sl : Int) ≠ 0 := by omega
    simpa using h9
  have hatc : IntKind.i64.wrap (at_ : Int) = (at_ : Int) := by rw [IntKind.wrap_i64]; omega
  have hx8 := HX8.out _ _ _ HFB.out.bl
  have hfr : w4.frozen? ⟨gb, o + k, none⟩ = false := free10 HGC.out _
  have hyv := HYV.out
  have hwy : IntKind.u8.wrap ((x8.toNat : Int) + (by_ : Int)) = (y8.toNat : Int) := by rw [IntKind.wrap_u8]; omega
  have hset := HSET.out _ _ _ _ HFB.out.bl HGC.out
  have hki : (k : Int) < (sl : Int) := by omega
  clear hyv
  go_upto_region 8 with fail
  clear hx8 hfr hwy hki hmod hs0 hatc
  have hgW : W.heap.size ≤ gb := Nat.le_trans (Nat.le_of_eq HGW.out.symm) (Nat.le_of_lt HGB.out)
  have hbb : Below W.heap.size W (w4.setCell ⟨gb, o + k, none⟩ (.int .u8 (y8.toNat : Int))) := HB.out.setCell hgW _
  replace HB := Lib.hid hbb
  have HBL := Lib.hid hset
  clear hbb hset HFB HGC hgW
  generalize w4.setCell ⟨gb, o + k, none⟩ (.int .u8 (y8.toNat : Int)) = w5 at *
  obtain ⟨⟨z0, z1, z2, z3, z4, z5, z6, z7⟩, zr, zt⟩ := k2
  unfold hdCs at cD2
  simp only at cD2
  by_cases h0 : by_ = 0
  · have hp := HP2.out
    rw [decide_eq_true h0] at hp
    subst hp
    subst h0
    simp only [okE, if_true] at cD2
    go_upto_region 9 with (go_at_call 12; refine (cD2 _ _ _ HBL.out hcap).out.mono ?_; rintro e w6 ⟨rfl, hb⟩; replace HB := Lib.hid (HB.out.trans (hb.mono HB.out.size)); clear hb cD2)
    have hx := heap_alloc_new w6 (.cells #[.int .i64 z0, .int .i64 z1, .int .i64 z2, .int .i64 z3, .int .i64 z4, .int .i64 z5, .int .i64 z6, .int .i64 z7, .int .u32 (zr : Int), .int .i64 zt] 26)
    have hb0 : Below w6.heap.size w6 (w6.alloc (.cells #[.int .i64 z0, .int .i64 z1, .int .i64 z2, .int .i64 z3, .int .i64 z4, .int .i64 z5, .int .i64 z6, .int .i64 z7, .int .u32 (zr : Int), .int .i64 zt] 26)) := (Below.refl _ _).alloc (Nat.le_refl _) _
    generalize w6.alloc (.cells #[.int .i64 z0, .int .i64 z1, .int .i64 z2, .int .i64 z3, .int .i64 z4, .int .i64 z5, .int .i64 z6, .int .i64 z7, .int .u32 (zr : Int), .int .i64 zt] 26) = w7 at *
    obtain ⟨q2, hg⟩ : ∃ g, g = w6.heap.size := ⟨_, rfl⟩
    rw [← hg] at hx
    simp only [← hg]
    replace HB := Lib.hid (HB.out.trans (hb0.mono HB.out.size))
    clear hx hb0 hg
    go_wp2_with (go_at_call 10; refine (cA _).out.mono ?_; rintro e w8 ⟨rfl, hb⟩; replace HB := Lib.hid (HB.out.trans (hb.mono HB.out.size)); clear hb )
    go_ret
    exact ⟨rfl, HB.out⟩
  · have hp := HP2.out
    rw [decide_eq_false h0] at hp
    subst hp
    simp only [okE, Bool.false_eq_true, if_false] at cD2
    have hb1 : ((by_ : Int) == 0) = false := by
      have h9 : (by_ : Int) ≠ 0 := by omega
      simpa using h9
    go_upto_region 9 with (go_at_call 12; refine (cD2 _ _ _ HBL.out hcap).out.mono ?_; rintro e w6 ⟨rfl, hb⟩; replace HB := Lib.hid (HB.out.trans (hb.mono HB.out.size)); clear hb cD2)
    have hx := heap_alloc_new w6 (.cells #[.int .i64 z0, .int .i64 z1, .int .i64 z2, .int .i64 z3, .int .i64 z4, .int .i64 z5, .int .i64 z6, .int .i64 z7, .int .u32 (zr : Int), .int .i64 zt] 26)
    have hb0 : Below w6.heap.size w6 (w6.alloc (.cells #[.int .i64 z0, .int .i64 z1, .int .i64 z2, .int .i64 z3, .int .i64 z4, .int .i64 z5, .int .i64 z6, .int .i64 z7, .int .u32 (zr : Int), .int .i64 zt] 26)) := (Below.refl _ _).alloc (Nat.le_refl _) _
    generalize w6.alloc (.cells #[.int .i64 z0, .int .i64 z1, .int .i64 z2, .int .i64 z3, .int .i64 z4, .int .i64 z5, .int .i64 z6, .int .i64 z7, .int .u32 (zr : Int), .int .i64 zt] 26) = w7 at *
    obtain ⟨q2, hg⟩ : ∃ g, g = w6.heap.size := ⟨_, rfl⟩
    rw [← hg] at hx
    simp only [← hg]
    replace HB := Lib.hid (HB.out.trans (hb0.mono HB.out.size))
    clear hx hb0 hg
    go_wp2_with (go_at_call 10; refine (cA _).out.mono ?_; rintro e w8 ⟨rfl, hb⟩; replace HB := Lib.hid (HB.out.trans (hb.mono HB.out.size)); clear hb )
    go_ret
    exact ⟨rfl, HB.out⟩
end No
end Go.Proofs.Yteefkhgmcknbaaa
