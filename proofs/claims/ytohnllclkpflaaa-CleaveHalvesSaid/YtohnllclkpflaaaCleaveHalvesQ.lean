/-
  CleaveHalves at every input: it returns true, and changes no argument.
-/
import Derived.Test.YtohnllclkpflaaaPqCleaveLaw
import Derived.Test.YtohnllclkpflaaaRows
import Derived.Test.YtohnllclkpflaaaPkAA
import Derived.SizedLaws
import Derived.Lib.SmallJoins

namespace Go.Proofs.Ytohnllclkpflaaa
open Go.RowKit
namespace No
open Mem Lx Bu Lf Fa
theorem RHalve_any {W : World} {c : Cfg} {lo hi : ByteArray} {top : Bool} {n : Nd} {a : At} (h : NdIn W n a) (hr : RightN c lo hi top n) (hf : Fit n) : Calls Try.prog 11 #[.agg (ndCs n a)] W fun e w' => (∃ v, e = .returned v ∧ EvHalf (halfN n) v w') ∧ Below W.heap.size W w' := by
  by_cases hl : n.lv = 0
  · rcases Nat.lt_or_ge n.prs.length 2 with h2 | h2
    · exact RHalve_lfew hl h2
    · exact RHalve_lsome h hf hl h2
  · rcases Nat.lt_or_ge n.kids.length 2 with h2 | h2
    · exact RHalve_ifew hl h2
    · exact RHalve_isome h (hr.2 hl).2 hf hl h2
theorem RJoin_any {W : World} {a b : Nd} {x y : At} (p : ByteArray) (ha : NdIn W a x) (hb : NdIn W b y) (fa : Fit a) (fb : Fit b) : Calls Try.prog 9 #[.agg (ndCs a x), .string p, .agg (ndCs b y)] W fun e w' => (∃ v, e = .returned v ∧ EvJoin (joinN a p b) v w') ∧ Below W.heap.size W w' := by
  by_cases hl : a.lv = b.lv
  · exact RJoin_yes p ha hb fa fb hl
  · exact RJoin_no p hl
set_option maxRecDepth 100000 in
set_option maxHeartbeats 16000000 in
theorem CleaveHalves_no (cB cY cF cN cU cL cKy cV : Int) (lo hi : ByteArray) (top : Bool) (n : Nd) (a : At) (W : World) (h : NdIn W n a) (hok : NdOk n) (hno : ¬ Ok ⟨cB, cY, cF, cN, cU, cL, cKy, cV⟩ lo hi top n) : Calls Try.prog 3 #[.agg #[.int .i64 cB, .int .i64 cY, .int .i64 cF, .int .i64 cN, .int .i64 cU, .int .i64 cL, .int .i64 cKy, .int .i64 cV], .agg #[.string lo, .string hi, .bool top], .agg (ndCs n a)] W fun e w' => e = .returned (.bool true) ∧ Below W.heap.size W w' := by
  have cA := fun w => Lib.hid (awake_any w)
  have cR : ∀ w, Below W.heap.size W w → Hid (Calls Try.prog 7 #[.agg #[.int .i64 cB, .int .i64 cY, .int .i64 cF, .int .i64 cN, .int .i64 cU, .int .i64 cL, .int .i64 cKy, .int .i64 cV], .agg #[.string lo, .string hi, .bool top], .agg (ndCs n a)] w fun e w' => e = .returned (.bool false) ∧ Below w.heap.size w w') := fun w hb => right_any ⟨cB, cY, cF, cN, cU, cL, cKy, cV⟩ lo hi top (h.kept hb) hok false ⟨fun e => (by cases e), fun e => absurd e hno⟩
  clear h hok hno
  obtain ⟨lv, K, P, B, Q⟩ := n
  obtain ⟨kA, kc, pA, pc, bA, bc, qA, qc⟩ := a
  unfold ndCs at *
  simp only at *
  generalize K.length = kn at *
  generalize P.length = pn at *
  generalize B.length = bn at *
  generalize Q.length = qn at *
  go_enter Try.func3, Try.ntmps3
  go_upto_region 1 with fail
  have HB := Lib.hid (B3.new W (.cells #[.int .i64 cB, .int .i64 cY, .int .i64 cF, .int .i64 cN, .int .i64 cU, .int .i64 cL, .int .i64 cKy, .int .i64 cV] 23) (.cells #[.string lo, .string hi, .bool top] 25) (.cells #[.int .i64 lv, .slice kA kn kc, .slice pA pn pc, .slice bA bn bc, .slice qA qn qc] 31))
  generalize ((W.alloc (.cells #[.int .i64 cB, .int .i64 cY, .int .i64 cF, .int .i64 cN, .int .i64 cU, .int .i64 cL, .int .i64 cKy, .int .i64 cV] 23)).alloc (.cells #[.string lo, .string hi, .bool top] 25)).alloc (.cells #[.int .i64 lv, .slice kA kn kc, .slice pA pn pc, .slice bA bn bc, .slice qA qn qc] 31) = w1 at *
  obtain ⟨g, hg⟩ : ∃ g, g = W.heap.size := ⟨_, rfl⟩
  rw [← hg] at HB
  simp only [← hg]
  clear hg
  obtain ⟨g0, g1, g2, g3, g4, g5, g6, g7⟩ := box8 HB.out.x
  obtain ⟨e0, e1, e2⟩ := box3 HB.out.y
  obtain ⟨d0, d1, d2, d3, d4⟩ := box5 HB.out.z
  go_wp2_with (first | (go_at_call 7; refine (cR _ HB.out.below).out.mono ?_; rintro e w2 ⟨rfl, hb⟩; replace HB := Lib.hid (HB.out.kept hb); clear hb cR g0 g1 g2 g3 g4 g5 g6 g7 e0 e1 e2 d0 d1 d2 d3 d4; obtain ⟨g0, g1, g2, g3, g4, g5, g6, g7⟩ := box8 HB.out.x; obtain ⟨e0, e1, e2⟩ := box3 HB.out.y; obtain ⟨d0, d1, d2, d3, d4⟩ := box5 HB.out.z) | (go_at_call 8; refine (cA _).out.mono ?_; rintro e w9 ⟨rfl, hb⟩; have HF := Lib.hid (HB.out.kept hb).below; clear hb))
  go_ret
  exact ⟨rfl, HF.out⟩
set_option maxRecDepth 100000 in
set_option maxHeartbeats 16000000 in
theorem CleaveHalves_yes (cB cY cF cN cU cL cKy cV : Int) (lo hi : ByteArray) (top : Bool) (n : Nd) (a : At) (W : World) (h : NdIn W n a) (hok : NdOk n) (hyes : Ok ⟨cB, cY, cF, cN, cU, cL, cKy, cV⟩ lo hi top n) : Calls Try.prog 3 #[.agg #[.int .i64 cB, .int .i64 cY, .int .i64 cF, .int .i64 cN, .int .i64 cU, .int .i64 cL, .int .i64 cKy, .int .i64 cV], .agg #[.string lo, .string hi, .bool top], .agg (ndCs n a)] W fun e w' => e = .returned (.bool true) ∧ Below W.heap.size W w' := by
  have cA := fun w => Lib.hid (awake_any w)
  have cR : ∀ w, Below W.heap.size W w → Hid (Calls Try.prog 7 #[.agg #[.int .i64 cB, .int .i64 cY, .int .i64 cF, .int .i64 cN, .int .i64 cU, .int .i64 cL, .int .i64 cKy, .int .i64 cV], .agg #[.string lo, .string hi, .bool top], .agg (ndCs n a)] w fun e w' => e = .returned (.bool true) ∧ Below w.heap.size w w') := fun w hb => right_any ⟨cB, cY, cF, cN, cU, cL, cKy, cV⟩ lo hi top (h.kept hb) hok true ⟨fun _ => hyes, fun _ => rfl⟩
  obtain ⟨hf, hlo, hhi, -, hrn⟩ := hyes
  obtain ⟨H, hH⟩ : ∃ H, H = halfN n := ⟨_, rfl⟩
  have hff := half_fit hrn hf
  have hfm := half_form hrn
  have hno := half_none hrn
  have hbk := half_back hrn
  have hrt := half_right hrn
  have hkd := half_kid hrn hok.kid
  have cH : ∀ w, Below W.heap.size W w → Hid (Calls Try.prog 10 #[.agg (ndCs n a)] w fun e w' => (∃ z1 z2, e = .returned (.tuple #[.agg (ndCs H.1 z1), .agg (ndCs H.2.1 z2), .string H.2.2.1, .bool H.2.2.2]) ∧ NdIn w' H.1 z1 ∧ NdIn w' H.2.1 z2) ∧ Below w.heap.size w w') := fun w hb => (Halve_any (h.kept hb) hrn hf).mono fun e w' ⟨⟨v, he, hv⟩, hb⟩ => by
    rw [← hH] at hv
    obtain ⟨z1, z2, hv, h1, h2⟩ := hv
    exact ⟨⟨z1, z2, by rw [he, hv], h1.in_, h2.in_⟩, hb⟩
  rw [← hH] at hff hfm hno hbk hrt hkd
  have cX : ∀ w, Below W.heap.size W w → Hid (Calls Try.prog 11 #[.agg (ndCs n a)] w fun e w' => (∃ z1 z2, e = .returned (.tuple #[.agg (ndCs H.1 z1), .agg (ndCs H.2.1 z2), .string H.2.2.1, .bool H.2.2.2]) ∧ NdIn w' H.1 z1 ∧ NdIn w' H.2.1 z2) ∧ Below w.heap.size w w') := fun w hb => (RHalve_any (h.kept hb) hrn hf).mono fun e w' ⟨⟨v, he, hv⟩, hb⟩ => by
    rw [← hH] at hv
    obtain ⟨z1, z2, hv, h1, h2⟩ := hv
    exact ⟨⟨z1, z2, by rw [he, hv], h1, h2⟩, hb⟩
  have cW : ∀ w, Below W.heap.size W w → Hid (Calls Try.prog 9 #[.agg (ndCs n a), .string ⟨#[]⟩, .agg #[.int .i64 n.lv, .slice none 0 0, .slice none 0 0, .slice none 0 0, .slice none 0 0]] w fun e w' => (∃ (z : At) (mp mb mq : Nat), e = .returned (.tuple #[.agg #[.int .i64 n.lv, .slice z.kA n.kids.length z.kc, .slice z.pA mp z.pc, .slice z.bA mb z.bc, .slice z.qA mq z.qc], .bool true]) ∧ KC w' z.kA z.kc n.kids) ∧ Below w.heap.size w w') := fun w hb => by
    have hz : Fit ⟨n.lv, [], [], [], []⟩ := ⟨Nat.zero_le _, Nat.zero_le _, Nat.zero_le _, Nat.zero_le _, (fun p hp => by cases hp), (fun p hp => by cases hp), (fun p hp => by cases hp)⟩
    have := RJoin_any (b := ⟨n.lv, [], [], [], []⟩) (y := ⟨none, 0, none, 0, none, 0, none, 0⟩) ⟨#[]⟩ (h.kept hb) ⟨RC.nil _ _ _, RC.nil _ _ _, RC.nil _ _ _, RC.nil _ _ _⟩ hf hz
    refine this.mono fun e w' ⟨⟨v, he, hv⟩, hb⟩ => ⟨?_, hb⟩
    obtain ⟨z, hv, hz⟩ := hv
    have e1 : joinN n ⟨#[]⟩ ⟨n.lv, [], [], [], []⟩ = (⟨n.lv, n.kids ++ [], if 0 < n.lv then n.piv ++ [⟨#[]⟩] ++ [] else [], n.buf ++ [], n.prs ++ []⟩, true) := if_neg (by simp)
    rw [e1] at hv hz
    simp only [List.append_nil] at hv hz
    exact ⟨z, _, _, _, by rw [he, hv]; rfl, hz.kids⟩
  have cS1 : ∀ (w : World) (z z' : At), NdIn w H.1 z → NdIn w H.1 z' → Hid (Calls Try.prog 12 #[.agg (ndCs H.1 z), .agg (ndCs H.1 z')] w fun e w' => e = .returned (.bool true) ∧ Below w.heap.size w w') := fun w z z' h1 h2 => (RSame_any h1 h2 hff.1.sz hff.1.sz).mono fun e w' ⟨⟨v, he, hv⟩, hb⟩ => ⟨by rw [he, hv.2 rfl], hb⟩
  have cS2 : ∀ (w : World) (z z' : At), NdIn w H.2.1 z → NdIn w H.2.1 z' → Hid (Calls Try.prog 12 #[.agg (ndCs H.2.1 z), .agg (ndCs H.2.1 z')] w fun e w' => e = .returned (.bool true) ∧ Below w.heap.size w w') := fun w z z' h1 h2 => (RSame_any h1 h2 hff.2.1.sz hff.2.1.sz).mono fun e w' ⟨⟨v, he, hv⟩, hb⟩ => ⟨by rw [he, hv.2 rfl], hb⟩
  have cBl : ∀ (w : World) (A : Option Addr) (c : Nat), Below W.heap.size W w → KC w A c n.kids → Hid (Calls Try.prog 13 #[.slice a.kA n.kids.length a.kc, .slice A n.kids.length c] w fun e w' => e = .returned (.bool true) ∧ Below w.heap.size w w') := fun w A c hb hk => (RBlocks_any (c := a.kc) (c' := c) (h.kept hb).kids.1 hk.1 (Nat.le_trans hf.kids (by decide)) (Nat.le_trans hf.kids (by decide))).mono fun e w' ⟨⟨v, he, hv⟩, hb⟩ => ⟨by rw [he, hv.2 rfl], hb⟩
  clear hff hfm hbk hrt hkd hno hH h hok hf hrn hlo hhi
  obtain ⟨⟨l1, K1, P1, B1, Q1⟩, ⟨l2, K2, P2, B2, Q2⟩, p, ok⟩ := H
  obtain ⟨lv, K, P, B, Q⟩ := n
  obtain ⟨kA, kc, pA, pc, bA, bc, qA, qc⟩ := a
  unfold ndCs at *
  simp only at *
  generalize K.length = kn at *
  generalize P.length = pn at *
  generalize B.length = bn at *
  generalize Q.length = qn at *
  generalize K1.length = k1n at *
  generalize P1.length = p1n at *
  generalize B1.length = b1n at *
  generalize Q1.length = q1n at *
  generalize K2.length = k2n at *
  generalize P2.length = p2n at *
  generalize B2.length = b2n at *
  generalize Q2.length = q2n at *
  go_enter Try.func3, Try.ntmps3
  go_upto_region 1 with fail
  have HB := Lib.hid (B3.new W (.cells #[.int .i64 cB, .int .i64 cY, .int .i64 cF, .int .i64 cN, .int .i64 cU, .int .i64 cL, .int .i64 cKy, .int .i64 cV] 23) (.cells #[.string lo, .string hi, .bool top] 25) (.cells #[.int .i64 lv, .slice kA kn kc, .slice pA pn pc, .slice bA bn bc, .slice qA qn qc] 31))
  generalize ((W.alloc (.cells #[.int .i64 cB, .int .i64 cY, .int .i64 cF, .int .i64 cN, .int .i64 cU, .int .i64 cL, .int .i64 cKy, .int .i64 cV] 23)).alloc (.cells #[.string lo, .string hi, .bool top] 25)).alloc (.cells #[.int .i64 lv, .slice kA kn kc, .slice pA pn pc, .slice bA bn bc, .slice qA qn qc] 31) = w1 at *
  obtain ⟨g, hg⟩ : ∃ g, g = W.heap.size := ⟨_, rfl⟩
  rw [← hg] at HB
  simp only [← hg]
  clear hg
  obtain ⟨g0, g1, g2, g3, g4, g5, g6, g7⟩ := box8 HB.out.x
  obtain ⟨e0, e1, e2⟩ := box3 HB.out.y
  obtain ⟨d0, d1, d2, d3, d4⟩ := box5 HB.out.z
  go_upto_region 4 with (first | (go_at_call 7; refine (cR _ HB.out.below).out.mono ?_; rintro e w2 ⟨rfl, hb⟩; replace HB := Lib.hid (HB.out.kept hb); clear hb cR g0 g1 g2 g3 g4 g5 g6 g7 e0 e1 e2 d0 d1 d2 d3 d4; obtain ⟨g0, g1, g2, g3, g4, g5, g6, g7⟩ := box8 HB.out.x; obtain ⟨e0, e1, e2⟩ := box3 HB.out.y; obtain ⟨d0, d1, d2, d3, d4⟩ := box5 HB.out.z) | (go_at_call 9; refine (cW _ HB.out.below).out.mono ?_; rintro e w3 ⟨⟨zw, mp, mb, mq, rfl, hk⟩, hb⟩; have HK := Lib.hid hk; replace HB := Lib.hid (HB.out.kept hb); clear hk hb cW g0 g1 g2 g3 g4 g5 g6 g7 e0 e1 e2 d0 d1 d2 d3 d4))
  have hm := heap_alloc_new w3 (.cells #[.int .i64 lv, .slice zw.kA kn zw.kc, .slice zw.pA mp zw.pc, .slice zw.bA mb zw.bc, .slice zw.qA mq zw.qc] 31)
  have hbl : Below w3.heap.size w3 (w3.alloc (.cells #[.int .i64 lv, .slice zw.kA kn zw.kc, .slice zw.pA mp zw.pc, .slice zw.bA mb zw.bc, .slice zw.qA mq zw.qc] 31)) := (Below.refl _ _).alloc (Nat.le_refl _) _
  generalize w3.alloc (.cells #[.int .i64 lv, .slice zw.kA kn zw.kc, .slice zw.pA mp zw.pc, .slice zw.bA mb zw.bc, .slice zw.qA mq zw.qc] 31) = w4 at *
  obtain ⟨qw4, hq⟩ : ∃ q, q = w3.heap.size := ⟨_, rfl⟩
  simp only [← hq] at hm ⊢
  clear hq
  have HWs := Lib.hid hm
  replace HB := Lib.hid (HB.out.kept hbl)
  replace HK := Lib.hid (HK.out.kept hbl)
  clear hm hbl
  obtain ⟨d0, d1, d2, d3, d4⟩ := box5 HB.out.z
  go_upto_region 5 with (go_at_call 10; refine (cH _ HB.out.below).out.mono ?_; rintro e w5 ⟨⟨z1, z2, rfl, hz1, hz2⟩, hb⟩; have HZ1 := Lib.hid hz1; have HZ2 := Lib.hid hz2; replace HB := Lib.hid (HB.out.kept hb); replace HK := Lib.hid (HK.out.kept hb); replace HWs := Lib.hid (kept3 HWs.out hb); clear hz1 hz2 hb cH d0 d1 d2 d3 d4)
  have h2n := two_new w5 (.cells #[.int .i64 l1, .slice z1.kA k1n z1.kc, .slice z1.pA p1n z1.pc, .slice z1.bA b1n z1.bc, .slice z1.qA q1n z1.qc] 31) (.cells #[.int .i64 l2, .slice z2.kA k2n z2.kc, .slice z2.pA p2n z2.pc, .slice z2.bA b2n z2.bc, .slice z2.qA q2n z2.qc] 31)
  generalize (w5.alloc (.cells #[.int .i64 l1, .slice z1.kA k1n z1.kc, .slice z1.pA p1n z1.pc, .slice z1.bA b1n z1.bc, .slice z1.qA q1n z1.qc] 31)).alloc (.cells #[.int .i64 l2, .slice z2.kA k2n z2.kc, .slice z2.pA p2n z2.pc, .slice z2.bA b2n z2.bc, .slice z2.qA q2n z2.qc] 31) = w6 at *
  obtain ⟨hm1, hm2, hbl⟩ := h2n
  obtain ⟨qw6, hq⟩ : ∃ q, q = w5.heap.size := ⟨_, rfl⟩
  simp only [← hq] at hm1 hm2 ⊢
  clear hq
  have HA := Lib.hid hm1
  have HC := Lib.hid hm2
  replace HB := Lib.hid (HB.out.kept hbl)
  replace HK := Lib.hid (HK.out.kept hbl)
  replace HWs := Lib.hid (kept3 HWs.out hbl)
  replace HZ1 := Lib.hid (HZ1.out.kept hbl)
  replace HZ2 := Lib.hid (HZ2.out.kept hbl)
  clear hm1 hm2 hbl
  obtain ⟨d0, d1, d2, d3, d4⟩ := box5 HB.out.z
  go_upto_region 6 with (go_at_call 11; refine (cX _ HB.out.below).out.mono ?_; rintro e w7 ⟨⟨z3, z4, rfl, hz3, hz4⟩, hb⟩; have HZ3 := Lib.hid hz3; have HZ4 := Lib.hid hz4; replace HB := Lib.hid (HB.out.kept hb); replace HK := Lib.hid (HK.out.kept hb); replace HWs := Lib.hid (kept3 HWs.out hb); replace HZ1 := Lib.hid (HZ1.out.kept hb); replace HZ2 := Lib.hid (HZ2.out.kept hb); replace HA := Lib.hid (kept3 HA.out hb); replace HC := Lib.hid (kept3 HC.out hb); clear hz3 hz4 hb cX d0 d1 d2 d3 d4)
  have h2n := two_new w7 (.cells #[.int .i64 l1, .slice z3.kA k1n z3.kc, .slice z3.pA p1n z3.pc, .slice z3.bA b1n z3.bc, .slice z3.qA q1n z3.qc] 31) (.cells #[.int .i64 l2, .slice z4.kA k2n z4.kc, .slice z4.pA p2n z4.pc, .slice z4.bA b2n z4.bc, .slice z4.qA q2n z4.qc] 31)
  generalize (w7.alloc (.cells #[.int .i64 l1, .slice z3.kA k1n z3.kc, .slice z3.pA p1n z3.pc, .slice z3.bA b1n z3.bc, .slice z3.qA q1n z3.qc] 31)).alloc (.cells #[.int .i64 l2, .slice z4.kA k2n z4.kc, .slice z4.pA p2n z4.pc, .slice z4.bA b2n z4.bc, .slice z4.qA q2n z4.qc] 31) = w8 at *
  obtain ⟨hm1, hm2, hbl⟩ := h2n
  obtain ⟨qw8, hq⟩ : ∃ q, q = w7.heap.size := ⟨_, rfl⟩
  simp only [← hq] at hm1 hm2 ⊢
  clear hq
  have HX := Lib.hid hm1
  have HY := Lib.hid hm2
  replace HB := Lib.hid (HB.out.kept hbl)
  replace HK := Lib.hid (HK.out.kept hbl)
  replace HWs := Lib.hid (kept3 HWs.out hbl)
  replace HZ1 := Lib.hid (HZ1.out.kept hbl)
  replace HZ2 := Lib.hid (HZ2.out.kept hbl)
  replace HA := Lib.hid (kept3 HA.out hbl)
  replace HC := Lib.hid (kept3 HC.out hbl)
  replace HZ3 := Lib.hid (HZ3.out.kept hbl)
  replace HZ4 := Lib.hid (HZ4.out.kept hbl)
  clear hm1 hm2 hbl
  obtain ⟨d0, d1, d2, d3, d4⟩ := box5 HB.out.z; obtain ⟨m0, m1, m2, m3, m4⟩ := box5 HWs.out; obtain ⟨u0, u1, u2, u3, u4⟩ := box5 HA.out; obtain ⟨v0, v1, v2, v3, v4⟩ := box5 HC.out; obtain ⟨x0, x1, x2, x3, x4⟩ := box5 HX.out; obtain ⟨y0, y1, y2, y3, y4⟩ := box5 HY.out
  have hpp : (p.toList == p.toList) = true := beq_self_eq_true _
  have hoo : (ok == ok) = true := beq_self_eq_true _
  replace cS1 := cS1 w8 z1 z3 HZ1.out HZ3.out
  replace cS2 := fun w h2 h4 => cS2 w z2 z4 h2 h4
  replace cBl := fun w h1 h2 => cBl w zw.kA zw.kc h1 h2
  clear HZ1 HZ3
  go_wp2_with (first
    | (go_at_call_of 12 (Value.agg #[.int .i64 l1, .slice z1.kA k1n z1.kc, .slice z1.pA p1n z1.pc, .slice z1.bA b1n z1.bc, .slice z1.qA q1n z1.qc]); refine cS1.out.mono ?_; rintro e w9 ⟨rfl, hb⟩; replace HB := Lib.hid (HB.out.kept hb); replace HK := Lib.hid (HK.out.kept hb); replace HWs := Lib.hid (kept3 HWs.out hb); replace HZ2 := Lib.hid (HZ2.out.kept hb); replace HA := Lib.hid (kept3 HA.out hb); replace HC := Lib.hid (kept3 HC.out hb); replace HZ4 := Lib.hid (HZ4.out.kept hb); replace HX := Lib.hid (kept3 HX.out hb); replace HY := Lib.hid (kept3 HY.out hb); clear hb cS1; clear d0 d1 d2 d3 d4 m0 m1 m2 m3 m4 u0 u1 u2 u3 u4 v0 v1 v2 v3 v4 x0 x1 x2 x3 x4 y0 y1 y2 y3 y4; obtain ⟨d0, d1, d2, d3, d4⟩ := box5 HB.out.z; obtain ⟨m0, m1, m2, m3, m4⟩ := box5 HWs.out; obtain ⟨u0, u1, u2, u3, u4⟩ := box5 HA.out; obtain ⟨v0, v1, v2, v3, v4⟩ := box5 HC.out; obtain ⟨x0, x1, x2, x3, x4⟩ := box5 HX.out; obtain ⟨y0, y1, y2, y3, y4⟩ := box5 HY.out)
    | (go_at_call 12; refine (cS2 _ HZ2.out HZ4.out).out.mono ?_; rintro e w10 ⟨rfl, hb⟩; replace HB := Lib.hid (HB.out.kept hb); replace HK := Lib.hid (HK.out.kept hb); replace HWs := Lib.hid (kept3 HWs.out hb); replace HA := Lib.hid (kept3 HA.out hb); replace HC := Lib.hid (kept3 HC.out hb); replace HX := Lib.hid (kept3 HX.out hb); replace HY := Lib.hid (kept3 HY.out hb); clear hb cS2 HZ2 HZ4; clear d0 d1 d2 d3 d4 m0 m1 m2 m3 m4 u0 u1 u2 u3 u4 v0 v1 v2 v3 v4 x0 x1 x2 x3 x4 y0 y1 y2 y3 y4; obtain ⟨d0, d1, d2, d3, d4⟩ := box5 HB.out.z; obtain ⟨m0, m1, m2, m3, m4⟩ := box5 HWs.out; obtain ⟨u0, u1, u2, u3, u4⟩ := box5 HA.out; obtain ⟨v0, v1, v2, v3, v4⟩ := box5 HC.out; obtain ⟨x0, x1, x2, x3, x4⟩ := box5 HX.out; obtain ⟨y0, y1, y2, y3, y4⟩ := box5 HY.out)
    | (go_at_call 13; refine (cBl _ HB.out.below HK.out).out.mono ?_; rintro e w11 ⟨rfl, hb⟩; replace HB := Lib.hid (HB.out.kept hb); clear hb cBl)
    | (go_at_call 8; refine (cA _).out.mono ?_; rintro e w9 ⟨rfl, hb⟩; have HF := Lib.hid (HB.out.kept hb).below; clear hb))
  go_ret
  exact ⟨rfl, HF.out⟩
theorem CleaveHalves_walk (cB cY cF cN cU cL cKy cV : Int) (lo hi : ByteArray) (top : Bool) (n : Nd) (a : At) (W : World) (h : NdIn W n a) (hok : NdOk n) : Calls Try.prog 3 #[.agg #[.int .i64 cB, .int .i64 cY, .int .i64 cF, .int .i64 cN, .int .i64 cU, .int .i64 cL, .int .i64 cKy, .int .i64 cV], .agg #[.string lo, .string hi, .bool top], .agg (ndCs n a)] W fun e w' => e = .returned (.bool true) ∧ Below W.heap.size W w' := by
  by_cases hc : Ok ⟨cB, cY, cF, cN, cU, cL, cKy, cV⟩ lo hi top n
  · exact CleaveHalves_yes cB cY cF cN cU cL cKy cV lo hi top n a W h hok hc
  · exact CleaveHalves_no cB cY cF cN cU cL cKy cV lo hi top n a W h hok hc
end No
end Go.Proofs.Ytohnllclkpflaaa

namespace Go.Proofs.Ytohnllclkpflaaa.CleaveHalves
open Go.ChangeShapes Go.WideShapes Go.ChangeAt Go.RowKit
open Go.ChangeMaps (open_string shut_string)

theorem own : ownKnob Try.prog.godebug = none := by kernel_rfl

set_option maxRecDepth 100000 in
theorem contract (H : Type) (enc : TypeId × Value → H) (W : World) (base : Nat) (args : Array Value) (ds gs : List (DataW H)) (before : List MemPlace)
    (hval : ∀ (j : Nat) t v, Try.f3.params[j]? = some t → args[j]? = some v → Value.okWide Try.prog W .any base t v)
    (hW : DataW.Whole enc Try.prog Try.f3.params.toList Rows.cleaveHalvesSpec.vars false W args.toList ds gs before)
    (hsz : (DataW.weightsEach Try.prog (Try.f3.params.toList ++ Rows.cleaveHalvesSpec.plain.varTypes Try.prog) (ds ++ gs)).all (· ≤ reachBytes) = true) :
    Calls Try.prog 3 args W fun e W' => ∃ v, e = .returned v ∧ Rows.cleaveHalvesSpec.post enc Try.prog Try.f3 false true false false W args v W' := by
  have hW' := hW
  obtain ⟨p, q, hA0, hV, rfl, hfz, hnd⟩ := hW
  have hA : DataW.TrodAll enc Try.prog W 0 (fun _ => true) true Try.f3.params.toList args.toList ds p := hA0
  rw [Try.params3] at hA hval
  obtain ⟨v0, vs0, d0, ds0, p0, q0, hargs0, rfl, rfl, h0, r0⟩ := trodAll_cons hA
  obtain ⟨v1, vs1, d1, ds1, p1, q1, hargs1, rfl, rfl, h1, r1⟩ := trodAll_cons r0
  obtain ⟨v2, vs2, d2, ds2, p2, q2, hargs2, rfl, rfl, h2, r2⟩ := trodAll_cons r1
  obtain ⟨rfl, rfl, rfl⟩ := trodAll_nil r2
  obtain rfl : args = #[v0, v1, v2] := by cases args; simp_all
  obtain ⟨rfl, rfl⟩ := trodVars_none hV
  obtain ⟨cB, cY, cF, cN, cU, cL, cKy, cV, rfl⟩ := Cf.open_cfg (hval 0 23 v0 rfl rfl) h0
  obtain ⟨x1, x1', x1'', y1, y1', y1'', k1, rfl, rfl, rfl, t1, t1', t1''⟩ := Go.Joins.open_agg3 Try.underlying25 (by kernel_rfl) (by kernel_rfl) (hval 1 25 v1 rfl rfl) h1
  obtain ⟨lo, e1, rfl, mlo⟩ := DataW.trod_string Try.underlying9 t1
  obtain ⟨hi, e1', rfl, mhi⟩ := DataW.trod_string Try.underlying9 t1'
  obtain ⟨top, e1'', rfl⟩ := DataW.trod_bool Try.underlying4 t1''
  obtain rfl : x1 = _ := by simpa using e1
  obtain rfl : x1' = _ := by simpa using e1'
  obtain rfl : x1'' = _ := by simpa using e1''
  have zn : ∀ n ∈ d2.weights Try.prog 31, n ≤ reachBytes := fun n hn => by
    have := List.all_eq_true.1 hsz n (DataW.weights_mem_each (j := 2) (by rw [Try.params3]; rfl) rfl n hn)
    simpa using this
  obtain ⟨n, An, rfl, hn, bn⟩ := No.open_node (hval 2 31 v2 rfl rfl) h2 zn
  clear hA0
  simp only [List.append_nil] at hW'
  refine (No.CleaveHalves_walk cB cY cF cN cU cL cKy cV lo hi top n An W hn bn).mono fun e W' ⟨he, hg⟩ => ?_
  subst he
  exact ⟨_, rfl, Post.law_post (by kernel_rfl) (by kernel_rfl) hW' rfl rfl rfl Try.underlying4 hg⟩

set_option maxRecDepth 100000 in
theorem lifted (os : Os) (started : os.Started) (H : Type) (enc : TypeId × Value → H) :
    ReturnsInHanded {} Try.checked os 3 .any (Rows.cleaveHalvesSpec.pre6 enc Try.prog Try.f3 Rows.cleaveHalvesRow.domain false) (Rows.cleaveHalvesSpec.post enc Try.prog Try.f3 false true false false) := by
  refine returnsInHanded_of_change_sized (C := Try.checked) own started (by kernel_rfl) Try.func3
    (ChangeSpec.witness6 (enc := enc) (C := Try.checked) false ⟨#[], #[.agg #[.int .i64 0, .int .i64 0, .int .i64 0, .int .i64 0, .int .i64 0, .int .i64 0, .int .i64 0, .int .i64 0], .agg #[.string .empty, .string .empty, .bool false], .agg #[.int .i64 0, .slice none 0 0, .slice none 0 0, .slice none 0 0, .slice none 0 0]], []⟩ 8 (by kernel_rfl) (by kernel_rfl) (by kernel_rfl) (by kernel_rfl)) ?_
  intro W base args ds gs before hval hW _ hsz _
  exact contract H enc W base args ds gs before hval hW hsz

theorem holds : Rows.CleaveHalvesSaid :=
  OpenClaim.holds_of_wide 3 Try.f3 rfl rfl rfl rfl rfl rfl rfl ⟨rfl, rfl, rfl, rfl, rfl⟩ rfl rfl rfl rfl rfl (by kernel_rfl) Try.func3 (by kernel_rfl)
    (of_decide_eq_true (by kernel_rfl)) (by unfold Func.isWrapper; first | (rw [if_pos (by decide +kernel)]; kernel_rfl) | (rw [if_neg (by decide +kernel)]; exact ⟨rfl, rfl⟩))
    (fun os started H enc _ => lifted os started H enc)
end Go.Proofs.Ytohnllclkpflaaa.CleaveHalves
