/-
  CleaveLaw. Put together by pack.py.
-/
import Derived.Test.YtohnllclkpflaaaPqCleaveR4
import Derived.Test.YtohnllclkpflaaaPqCleaveC2
import Derived.Test.YtohnllclkpflaaaPqCleaveC3
import Derived.Test.YtohnllclkpflaaaPqNodeR3
import Derived.Test.YtohnllclkpflaaaPqConfR
import Derived.Test.YtohnllclkpflaaaPkAL

namespace Go.Proofs.Ytohnllclkpflaaa
open Go.RowKit
namespace No
open Mem Lx Bu Lf Fa
/-- what right asks -/
def Ok (c : Cfg) (lo hi : ByteArray) (top : Bool) (n : Nd) : Prop := Fit n ∧ lo.size ≤ 200 ∧ hi.size ≤ 200 ∧ Cf.Right c.blocks c.bytes c.frames c.fan c.buffer c.leaf c.key c.val ∧ RightN c lo hi top n
set_option maxRecDepth 100000 in
set_option maxHeartbeats 8000000 in
theorem right_any (c : Cfg) (lo hi : ByteArray) (top : Bool) {n : Nd} {a : At} {W : World} (h : NdIn W n a) (hok : NdOk n) (r : Bool) (hr : r = true ↔ Ok c lo hi top n) : Calls Try.prog 7 #[.agg (cfCs c), .agg #[.string lo, .string hi, .bool top], .agg (ndCs n a)] W fun e w' => e = .returned (.bool r) ∧ Below W.heap.size W w' := by
  obtain ⟨gb, hgb⟩ := bool_of (¬ Fit n)
  have cG : ∀ w, Below W.heap.size W w → Hid (Calls Try.prog 20 #[.agg (ndCs n a)] w fun e w' => e = .returned (.bool gb) ∧ Below w.heap.size w w') := fun w hb => (Great_any (h.kept hb) hok).mono fun e w' ⟨⟨v, he, hv⟩, hb⟩ => ⟨by
    rw [he]
    cases v <;> cases gb <;> simp_all, hb⟩
  obtain ⟨q, hq⟩ := bool_of (Cf.Right c.blocks c.bytes c.frames c.fan c.buffer c.leaf c.key c.val)
  have cQ : ∀ w, Hid (Calls Try.prog 21 #[.agg (cfCs c)] w fun e w' => e = .returned (.bool q) ∧ Below w.heap.size w w') := fun w => by
    cases q with
    | true => exact Cf.RRight_yes c.blocks c.bytes c.frames c.fan c.buffer c.leaf c.key c.val w (hq.1 rfl)
    | false => exact Cf.RRight_no c.blocks c.bytes c.frames c.fan c.buffer c.leaf c.key c.val w (fun h => by cases hq.2 h)
  obtain ⟨t, ht⟩ := bool_of (RightN c lo hi top n)
  have cR : Fit n → lo.size ≤ 200 → ∀ w, Below W.heap.size W w → Hid (Calls Try.prog 19 #[.agg (cfCs c), .agg #[.string lo, .string hi, .bool top], .agg (ndCs n a)] w fun e w' => e = .returned (.bool t) ∧ Below w.heap.size w w') := fun hf h1 w hb => (RRight_any c lo hi top (h.kept hb) hf hok.kid (Nat.le_trans h1 (by decide))).mono fun e w' ⟨⟨v, he, hv⟩, hb⟩ => ⟨by rw [he, bool_one hv ht], hb⟩
  have HGB : Hid (gb = false → Fit n) := fun e => Classical.not_not.1 fun hn => by
    rw [hgb.2 hn] at e
    cases e
  have HRB : Hid (r = (!gb && decide (lo.size ≤ 200) && decide (hi.size ≤ 200) && q && t)) := by
    unfold Hid
    have h1 : gb = true ↔ ¬ Fit n := hgb
    rw [Bool.eq_iff_iff, hr]
    unfold Ok
    simp only [Bool.and_eq_true, Bool.not_eq_true', decide_eq_true_eq, hq, ht]
    constructor
    · rintro ⟨f, k1, k2, k3, k4⟩
      refine ⟨⟨⟨⟨?_, k1⟩, k2⟩, k3⟩, k4⟩
      cases gb
      · rfl
      · exact absurd f (h1.1 rfl)
    · rintro ⟨⟨⟨⟨f, k1⟩, k2⟩, k3⟩, k4⟩
      exact ⟨HGB.out f, k1, k2, k3, k4⟩
  clear h hok hr hgb hq ht
  obtain ⟨cB, cY, cF, cN, cU, cL, cKy, cV⟩ := c
  obtain ⟨lv, K, L, B, Q⟩ := n
  obtain ⟨kA, kc, pA, pc, bA, bc, qA, qc⟩ := a
  unfold cfCs ndCs at *
  simp only at *
  generalize K.length = kn at *
  generalize L.length = pn at *
  generalize B.length = bn at *
  generalize Q.length = qn at *
  go_enter Try.func7, Try.ntmps7
  go_upto_region 1 with fail
  have HB := Lib.hid (B3.new W (.cells #[.int .i64 cB, .int .i64 cY, .int .i64 cF, .int .i64 cN, .int .i64 cU, .int .i64 cL, .int .i64 cKy, .int .i64 cV] 23) (.cells #[.string lo, .string hi, .bool top] 25) (.cells #[.int .i64 lv, .slice kA kn kc, .slice pA pn pc, .slice bA bn bc, .slice qA qn qc] 31))
  generalize ((W.alloc (.cells #[.int .i64 cB, .int .i64 cY, .int .i64 cF, .int .i64 cN, .int .i64 cU, .int .i64 cL, .int .i64 cKy, .int .i64 cV] 23)).alloc (.cells #[.string lo, .string hi, .bool top] 25)).alloc (.cells #[.int .i64 lv, .slice kA kn kc, .slice pA pn pc, .slice bA bn bc, .slice qA qn qc] 31) = w1 at *
  obtain ⟨g, hg⟩ : ∃ g, g = W.heap.size := ⟨_, rfl⟩
  rw [← hg] at HB
  simp only [← hg]
  clear hg
  obtain ⟨g0, g1, g2, g3, g4, g5, g6, g7⟩ := box8 HB.out.x
  obtain ⟨e0, e1, e2⟩ := box3 HB.out.y
  obtain ⟨d0, d1, d2, d3, d4⟩ := box5 HB.out.z
  cases gb with
  | true =>
    have HE : Hid (r = false) := by unfold Hid; rw [HRB.out]; rfl
    clear cR cQ HGB HRB
    go_wp2_with (go_at_call 20; refine (cG _ HB.out.below).out.mono ?_; rintro e w2 ⟨rfl, hb⟩; have HBF := Lib.hid (HB.out.kept hb).below)
    go_ret
    exact ⟨by rw [HE.out]; rfl, HBF.out⟩
  | false =>
    replace cR := cR (HGB.out rfl)
    clear HGB
    by_cases h1 : lo.size ≤ 200
    case neg =>
      have hd : (200 : Int) < (lo.size : Int) := by omega
      have HE : Hid (r = false) := by unfold Hid; rw [HRB.out, decide_eq_false h1]; rfl
      clear cR cQ HRB h1
      go_wp2_with (go_at_call 20; refine (cG _ HB.out.below).out.mono ?_; rintro e w2 ⟨rfl, hb⟩; replace HB := Lib.hid (HB.out.kept hb); clear hb g0 g1 g2 g3 g4 g5 g6 g7 e0 e1 e2 d0 d1 d2 d3 d4; obtain ⟨e0, e1, e2⟩ := box3 HB.out.y)
      go_ret
      exact ⟨by rw [HE.out]; rfl, HB.out.below⟩
    have hd : (lo.size : Int) ≤ (200 : Int) := by omega
    replace cR := cR h1
    by_cases h2 : hi.size ≤ 200
    case neg =>
      have hd2 : (200 : Int) < (hi.size : Int) := by omega
      have HE : Hid (r = false) := by unfold Hid; rw [HRB.out, decide_eq_false h2, Bool.and_false]; rfl
      clear cR cQ HRB h1 h2
      go_wp2_with (go_at_call 20; refine (cG _ HB.out.below).out.mono ?_; rintro e w2 ⟨rfl, hb⟩; replace HB := Lib.hid (HB.out.kept hb); clear hb g0 g1 g2 g3 g4 g5 g6 g7 e0 e1 e2 d0 d1 d2 d3 d4; obtain ⟨e0, e1, e2⟩ := box3 HB.out.y)
      go_ret
      exact ⟨by rw [HE.out]; rfl, HB.out.below⟩
    have hd2 : (hi.size : Int) ≤ (200 : Int) := by omega
    have HE : Hid (r = (q && t)) := by unfold Hid; rw [HRB.out, decide_eq_true h1, decide_eq_true h2]; simp
    clear HRB h1 h2
    go_wp2_with (first
      | (go_at_call 20; refine (cG _ HB.out.below).out.mono ?_; rintro e w2 ⟨rfl, hb⟩; replace HB := Lib.hid (HB.out.kept hb); clear hb g0 g1 g2 g3 g4 g5 g6 g7 e0 e1 e2 d0 d1 d2 d3 d4 cG; obtain ⟨g0, g1, g2, g3, g4, g5, g6, g7⟩ := box8 HB.out.x; obtain ⟨e0, e1, e2⟩ := box3 HB.out.y; obtain ⟨d0, d1, d2, d3, d4⟩ := box5 HB.out.z)
      | (go_at_call 21; refine (cQ _).out.mono ?_; rintro e w3 ⟨rfl, hb⟩; replace HB := Lib.hid (HB.out.kept hb); clear hb g0 g1 g2 g3 g4 g5 g6 g7 e0 e1 e2 d0 d1 d2 d3 d4 cQ; obtain ⟨g0, g1, g2, g3, g4, g5, g6, g7⟩ := box8 HB.out.x; obtain ⟨e0, e1, e2⟩ := box3 HB.out.y; obtain ⟨d0, d1, d2, d3, d4⟩ := box5 HB.out.z; cases q)
      | (go_at_call 19; refine (cR _ HB.out.below).out.mono ?_; rintro e w4 ⟨rfl, hb⟩; replace HB := Lib.hid (HB.out.kept hb); clear hb cR))
    all_goals
      go_ret
      exact ⟨by rw [HE.out]; rfl, HB.out.below⟩
/-! ### the page's example -/
def xB : List Mg := [(⟨#[97]⟩, false, ⟨#[]⟩), (⟨#[99]⟩, false, ⟨#[]⟩), (⟨#[101]⟩, false, ⟨#[]⟩)]
def xN : Nd := ⟨1, [4, 7, 2], [⟨#[98]⟩, ⟨#[100]⟩], xB, []⟩
def xA : Nd := ⟨1, [4, 7], [⟨#[98]⟩], [(⟨#[97]⟩, false, ⟨#[]⟩), (⟨#[99]⟩, false, ⟨#[]⟩)], []⟩
def xC : Nd := ⟨1, [2], [], [(⟨#[101]⟩, false, ⟨#[]⟩)], []⟩
def xK : Cfg := ⟨100, 0, 0, 8, 16, 0, 10, 10⟩
theorem x_fit : Fit xN := ⟨by decide, by decide, by decide, by decide, by decide +kernel, by decide +kernel, by decide +kernel⟩
theorem x_right : RightN xK ⟨#[]⟩ ⟨#[]⟩ true xN := by
  refine ⟨fun h => absurd h (by decide), fun _ => ⟨by decide, ?_⟩⟩
  refine ⟨fun i k h => ?_, by decide +kernel, fun m hm => ?_, by decide, rfl, by decide, by decide, rfl, ⟨by decide +kernel, fun i a b ha hb => ?_⟩, by decide, fun i a b ha hb => ?_⟩
  · match i, h with
    | 0, h =>
      cases h
      exact ⟨by decide, fun j m hj => absurd hj (Nat.not_lt_zero _)⟩
    | 1, h =>
      cases h
      refine ⟨by decide, fun j m hj hm => ?_⟩
      obtain rfl : j = 0 := by omega
      cases hm
      decide
    | 2, h =>
      cases h
      refine ⟨by decide, fun j m hj hm => ?_⟩
      match j, hj, hm with
      | 0, _, hm => cases hm; decide
      | 1, _, hm => cases hm; decide
    | i + 3, h => simp [xN] at h
  · have : m = (⟨#[97]⟩, false, ⟨#[]⟩) ∨ m = (⟨#[99]⟩, false, ⟨#[]⟩) ∨ m = (⟨#[101]⟩, false, ⟨#[]⟩) := by simpa [xN, xB] using hm
    rcases this with rfl | rfl | rfl <;> exact ⟨by decide +kernel, by decide +kernel, by decide +kernel, by decide +kernel⟩
  · match i, ha, hb with
    | 0, ha, hb => cases ha; cases hb; decide +kernel
    | i + 1, _, hb => simp [xN] at hb
  · match i, ha, hb with
    | 0, ha, hb => cases ha; cases hb; decide +kernel
    | 1, ha, hb => cases ha; cases hb; decide +kernel
    | i + 2, _, hb => simp [xN, xB] at hb
theorem x_half : halfN xN = (xA, xC, ⟨#[100]⟩, true) := by
  rw [halfN_inner (k := 2) (p := ⟨#[100]⟩) (by decide) (by decide) (by decide) rfl]
  have e1 : belowM ⟨#[100]⟩ xN.buf = [(⟨#[97]⟩, false, ⟨#[]⟩), (⟨#[99]⟩, false, ⟨#[]⟩)] := by decide +kernel
  have e2 : restM ⟨#[100]⟩ xN.buf = [(⟨#[101]⟩, false, ⟨#[]⟩)] := by decide +kernel
  rw [e1, e2]
  rfl
theorem x_join : joinN xA ⟨#[100]⟩ xC = (xN, true) := by
  have := half_back x_right (by rw [x_half])
  rw [x_half] at this
  exact this
theorem Fit.sz {n : Nd} (h : Fit n) : Sz n := ⟨fun p hp => Nat.le_trans (h.pk p hp) (by decide), fun m hm => Nat.le_trans (h.bk m hm) (by decide), fun m hm => Nat.le_trans (h.qk m hm) (by decide), Nat.le_trans h.kids (by decide), Nat.le_trans h.piv (by decide), Nat.le_trans h.buf (by decide), Nat.le_trans h.prs (by decide)⟩
set_option maxRecDepth 100000 in
set_option maxHeartbeats 8000000 in
theorem awake_any (W : World) : Calls Try.prog 8 #[] W fun e w' => e = .returned (.bool true) ∧ Below W.heap.size W w' := by
  have hff := half_fit x_right x_fit
  have hfm := half_form x_right
  rw [x_half] at hff hfm
  have cH : ∀ (w : World) (z : At), NdIn w xN z → Hid (Calls Try.prog 10 #[.agg (ndCs xN z)] w fun e w' => (∃ z1 z2, e = .returned (.tuple #[.agg (ndCs xA z1), .agg (ndCs xC z2), .string ⟨#[100]⟩, .bool true]) ∧ NdIn w' xA z1 ∧ NdIn w' xC z2) ∧ Below w.heap.size w w') := fun w z h => (Halve_any h x_right x_fit).mono fun e w' ⟨⟨v, he, hv⟩, hb⟩ => by
    rw [x_half] at hv
    obtain ⟨z1, z2, hv, h1, h2⟩ := hv
    exact ⟨⟨z1, z2, by rw [he, hv], h1.in_, h2.in_⟩, hb⟩
  have cJ : ∀ (w : World) (z1 z2 : At), NdIn w xA z1 → NdIn w xC z2 → Hid (Calls Try.prog 14 #[.agg (ndCs xA z1), .string ⟨#[100]⟩, .agg (ndCs xC z2)] w fun e w' => (∃ z, e = .returned (.tuple #[.agg (ndCs xN z), .bool true]) ∧ NdIn w' xN z) ∧ Below w.heap.size w w') := fun w z1 z2 h1 h2 => (Join_any ⟨#[100]⟩ h1 h2 hff.1 hff.2.1 hfm.1 hfm.2).mono fun e w' ⟨⟨v, he, hv⟩, hb⟩ => by
    rw [x_join] at hv
    obtain ⟨z, hv, h⟩ := hv
    exact ⟨⟨z, by rw [he, hv], h⟩, hb⟩
  have cS : ∀ (w : World) (z z' : At), NdIn w xN z → NdIn w xN z' → Hid (Calls Try.prog 12 #[.agg (ndCs xN z), .agg (ndCs xN z')] w fun e w' => e = .returned (.bool true) ∧ Below w.heap.size w w') := fun w z z' h h' => (RSame_any h h' x_fit.sz x_fit.sz).mono fun e w' ⟨⟨v, he, hv⟩, hb⟩ => ⟨by rw [he, hv.2 rfl], hb⟩
  have cF : ∀ (w : World) (z1 z2 : At), Hid (Calls Try.prog 15 #[.agg #[.int .i64 0, .int .i64 0, .int .i64 0, .int .i64 8, .int .i64 16, .int .i64 0, .int .i64 0, .int .i64 0], .agg (ndCs xA z1), .agg (ndCs xC z2)] w fun e w' => e = .returned (.bool true) ∧ Below w.heap.size w w') := fun w z1 z2 => Fits_any ⟨0, 0, 0, 8, 16, 0, 0, 0⟩ z1 z2 hff.1 hff.2.1 w
  clear hff hfm
  go_enter Try.func8, Try.ntmps8
  go_upto_region 2 with fail
  have h4 := four_new W (.cells #[.int .u32 4, .int .u32 7, .int .u32 2] 46) (.cells #[.string ⟨#[98]⟩, .string ⟨#[100]⟩] 9) (.cells #[.string ⟨#[97]⟩, .bool false, .string ⟨#[]⟩, .string ⟨#[99]⟩, .bool false, .string ⟨#[]⟩, .string ⟨#[101]⟩, .bool false, .string ⟨#[]⟩] 48) (.cells #[.int .i64 1, .slice (some ⟨W.heap.size, 0, none⟩) 3 3, .slice (some ⟨W.heap.size + 1, 0, none⟩) 2 2, .slice (some ⟨W.heap.size + 1 + 1, 0, none⟩) 3 3, .slice none 0 0] 31)
  generalize (((W.alloc (.cells #[.int .u32 4, .int .u32 7, .int .u32 2] 46)).alloc (.cells #[.string ⟨#[98]⟩, .string ⟨#[100]⟩] 9)).alloc (.cells #[.string ⟨#[97]⟩, .bool false, .string ⟨#[]⟩, .string ⟨#[99]⟩, .bool false, .string ⟨#[]⟩, .string ⟨#[101]⟩, .bool false, .string ⟨#[]⟩] 48)).alloc (.cells #[.int .i64 1, .slice (some ⟨W.heap.size, 0, none⟩) 3 3, .slice (some ⟨W.heap.size + 1, 0, none⟩) 2 2, .slice (some ⟨W.heap.size + 1 + 1, 0, none⟩) 3 3, .slice none 0 0] 31) = w1 at *
  obtain ⟨g, hg⟩ : ∃ g, g = W.heap.size := ⟨_, rfl⟩
  simp only [← hg] at h4 ⊢
  obtain ⟨z0, hz0⟩ : ∃ z : At, z = ⟨some ⟨g, 0, none⟩, 3, some ⟨g + 1, 0, none⟩, 2, some ⟨g + 1 + 1, 0, none⟩, 3, none, 0⟩ := ⟨_, rfl⟩
  have HI : Hid (NdIn w1 xN z0) := by
    subst hz0
    exact ⟨⟨rd_block h4.1, Nat.le_refl _⟩, ⟨rd_block h4.2.1, Nat.le_refl _⟩, ⟨rd_block h4.2.2.1, Nat.le_refl _⟩, RC.nil _ _ _⟩
  have hv : ndCs xN z0 = #[.int .i64 1, .slice (some ⟨g, 0, none⟩) 3 3, .slice (some ⟨g + 1, 0, none⟩) 2 2, .slice (some ⟨g + 1 + 1, 0, none⟩) 3 3, .slice none 0 0] := by
    subst hz0
    rfl
  have HW : Hid (Below W.heap.size W w1) := by
    rw [← hg]
    exact h4.2.2.2.2
  have HX : Hid (w1.heap[g + 1 + 1 + 1]? = some (.cells #[.int .i64 1, .slice (some ⟨g, 0, none⟩) 3 3, .slice (some ⟨g + 1, 0, none⟩) 2 2, .slice (some ⟨g + 1 + 1, 0, none⟩) 3 3, .slice none 0 0] 31)) := h4.2.2.2.1
  obtain ⟨d0, d1, d2, d3, d4⟩ := box5 HX.out
  replace cH := fun w (hb : Below w1.heap.size w1 w) => cH w z0 (HI.out.kept hb)
  replace cS := fun w z (hb : Below w1.heap.size w1 w) hz => cS w z z0 hz (HI.out.kept hb)
  rw [hv] at cH cS
  clear hv h4 hz0 HI hg
  go_upto_region 3 with (go_at_call 10; refine (cH _ (Below.refl _ _)).out.mono ?_; rintro e w2 ⟨⟨z1, z2, rfl, hz1, hz2⟩, hb⟩; have HZ1 := Lib.hid hz1; have HZ2 := Lib.hid hz2; have HB2 := Lib.hid hb; clear hz1 hz2 hb cH; obtain ⟨a0, a1, a2, a3, a4, a5, a6, a7⟩ := z1; obtain ⟨b0, b1, b2, b3, b4, b5, b6, b7⟩ := z2; simp only [ndCs, xA, xC, List.length_cons, List.length_nil, Nat.zero_add, Nat.reduceAdd])
  clear d0 d1 d2 d3 d4
  have h2n := two_new w2 (.cells #[.int .i64 1, .slice a0 2 a1, .slice a2 1 a3, .slice a4 2 a5, .slice a6 0 a7] 31) (.cells #[.int .i64 1, .slice b0 1 b1, .slice b2 0 b3, .slice b4 1 b5, .slice b6 0 b7] 31)
  generalize (w2.alloc (.cells #[.int .i64 1, .slice a0 2 a1, .slice a2 1 a3, .slice a4 2 a5, .slice a6 0 a7] 31)).alloc (.cells #[.int .i64 1, .slice b0 1 b1, .slice b2 0 b3, .slice b4 1 b5, .slice b6 0 b7] 31) = w3 at *
  obtain ⟨ha, hb, hbl⟩ := h2n
  obtain ⟨q, hq⟩ : ∃ q, q = w2.heap.size := ⟨_, rfl⟩
  simp only [← hq] at ha hb ⊢
  clear hq
  have HA := Lib.hid ha
  have HBB := Lib.hid hb
  replace HZ1 := Lib.hid (HZ1.out.kept hbl)
  replace HZ2 := Lib.hid (HZ2.out.kept hbl)
  have HB3 : Hid (Below w1.heap.size w1 w3) := HB2.out.trans (hbl.mono HB2.out.size)
  clear ha hb hbl HB2
  obtain ⟨u0, u1, u2, u3, u4⟩ := box5 HA.out
  obtain ⟨v0, v1, v2, v3, v4⟩ := box5 HBB.out
  replace cJ := cJ w3 ⟨a0, a1, a2, a3, a4, a5, a6, a7⟩ ⟨b0, b1, b2, b3, b4, b5, b6, b7⟩ HZ1.out HZ2.out
  simp only [ndCs, xA, xC, List.length_cons, List.length_nil, Nat.zero_add, Nat.reduceAdd] at cJ
  clear HZ1 HZ2
  go_upto_region 4 with (go_at_call 14; refine cJ.out.mono ?_; rintro e w4 ⟨⟨z3, rfl, hz3⟩, hb⟩; have HZ3 := Lib.hid hz3; have HB4 : Hid (Below w1.heap.size w1 w4) := HB3.out.trans (hb.mono HB3.out.size); replace HA := Lib.hid (kept3 HA.out hb); replace HBB := Lib.hid (kept3 HBB.out hb); clear hz3 hb cJ HB3; obtain ⟨c0, c1, c2, c3, c4, c5, c6, c7⟩ := z3; simp only [xN, xB, List.length_cons, List.length_nil, Nat.zero_add, Nat.reduceAdd])
  clear u0 u1 u2 u3 u4 v0 v1 v2 v3 v4
  have hm := heap_alloc_new w4 (.cells #[.int .i64 1, .slice c0 3 c1, .slice c2 2 c3, .slice c4 3 c5, .slice c6 0 c7] 31)
  have hbl : Below w4.heap.size w4 (w4.alloc (.cells #[.int .i64 1, .slice c0 3 c1, .slice c2 2 c3, .slice c4 3 c5, .slice c6 0 c7] 31)) := (Below.refl _ _).alloc (Nat.le_refl _) _
  generalize w4.alloc (.cells #[.int .i64 1, .slice c0 3 c1, .slice c2 2 c3, .slice c4 3 c5, .slice c6 0 c7] 31) = w5 at *
  obtain ⟨m, hmm⟩ : ∃ m, m = w4.heap.size := ⟨_, rfl⟩
  simp only [← hmm] at hm ⊢
  clear hmm
  have HM := Lib.hid hm
  replace HZ3 := Lib.hid (HZ3.out.kept hbl)
  replace HA := Lib.hid (kept3 HA.out hbl)
  replace HBB := Lib.hid (kept3 HBB.out hbl)
  have HB5 : Hid (Below w1.heap.size w1 w5) := HB4.out.trans (hbl.mono HB4.out.size)
  clear hm hbl HB4
  replace HX := Lib.hid (kept3 HX.out HB5.out)
  obtain ⟨d0, d1, d2, d3, d4⟩ := box5 HX.out
  obtain ⟨u0, u1, u2, u3, u4⟩ := box5 HA.out
  obtain ⟨v0, v1, v2, v3, v4⟩ := box5 HBB.out
  obtain ⟨m0, m1, m2, m3, m4⟩ := box5 HM.out
  replace cS := cS w5 ⟨c0, c1, c2, c3, c4, c5, c6, c7⟩ HB5.out HZ3.out
  replace cF := fun w => cF w ⟨a0, a1, a2, a3, a4, a5, a6, a7⟩ ⟨b0, b1, b2, b3, b4, b5, b6, b7⟩
  simp only [ndCs, xN, xB, xA, xC, List.length_cons, List.length_nil, Nat.zero_add, Nat.reduceAdd] at cS cF
  clear HZ3 HX HM
  go_wp2_with (first
    | (go_at_call 12; refine cS.out.mono ?_; rintro e w6 ⟨rfl, hb⟩; replace HA := Lib.hid (kept3 HA.out hb); replace HBB := Lib.hid (kept3 HBB.out hb); replace HB5 : Hid (Below w1.heap.size w1 w6) := HB5.out.trans (hb.mono HB5.out.size); clear hb cS d0 d1 d2 d3 d4 u0 u1 u2 u3 u4 v0 v1 v2 v3 v4 m0 m1 m2 m3 m4; obtain ⟨u0, u1, u2, u3, u4⟩ := box5 HA.out; obtain ⟨v0, v1, v2, v3, v4⟩ := box5 HBB.out)
    | (go_at_call 15; refine (cF _).out.mono ?_; rintro e w7 ⟨rfl, hb⟩; have HB7 : Hid (Below w1.heap.size w1 w7) := HB5.out.trans (hb.mono HB5.out.size)))
  go_ret
  exact ⟨rfl, HW.out.trans (HB7.out.mono HW.out.size)⟩
end No
end Go.Proofs.Ytohnllclkpflaaa
