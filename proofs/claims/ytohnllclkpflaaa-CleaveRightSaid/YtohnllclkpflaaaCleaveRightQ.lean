/-
  CleaveRight at every input: it returns true, and changes no argument.
-/
import Derived.Test.YtohnllclkpflaaaPqCleaveLaw
import Derived.Test.YtohnllclkpflaaaDriftW
import Derived.Test.YtohnllclkpflaaaRows
import Derived.Test.YtohnllclkpflaaaPkAA
import Derived.SizedLaws
import Derived.Lib.SmallJoins

namespace Go.Proofs.Ytohnllclkpflaaa
open Go.RowKit
namespace No
open Mem Lx Bu Lf Fa
/-- a span's box filled -/
def EvBoxS (b : Nat) (C : Array Value) (v : Value) (w : World) : Prop := v = undef ∧ w.heap[b]? = some (.cells C 25 (0, 0))
theorem into_set3' (w : World) (b : Nat) (v0 v1 v2 : Value) : Flow.Into [b] w (set3 w b v0 v1 v2) := ((into_one _ _ _ _).trans (into_one _ _ _ _)).trans (into_one _ _ _ _)
set_option maxRecDepth 100000 in
set_option maxHeartbeats 16000000 in
theorem CleaveRight_no (cB cY cF cN cU cL cKy cV : Int) (lo hi : ByteArray) (top : Bool) (n : Nd) (a : At) (W : World) (h : NdIn W n a) (hok : NdOk n) (hno : ¬ Ok ⟨cB, cY, cF, cN, cU, cL, cKy, cV⟩ lo hi top n) : Calls Try.prog 6 #[.agg #[.int .i64 cB, .int .i64 cY, .int .i64 cF, .int .i64 cN, .int .i64 cU, .int .i64 cL, .int .i64 cKy, .int .i64 cV], .agg #[.string lo, .string hi, .bool top], .agg (ndCs n a)] W fun e w' => e = .returned (.bool true) ∧ Below W.heap.size W w' := by
  have cA := fun w => Lib.hid (awake_any w)
  have cR : ∀ w, Below W.heap.size W w → Hid (Calls Try.prog 7 #[.agg #[.int .i64 cB, .int .i64 cY, .int .i64 cF, .int .i64 cN, .int .i64 cU, .int .i64 cL, .int .i64 cKy, .int .i64 cV], .agg #[.string lo, .string hi, .bool top], .agg (ndCs n a)] w fun e w' => e = .returned (.bool false) ∧ Below w.heap.size w w') := fun w hb => right_any ⟨cB, cY, cF, cN, cU, cL, cKy, cV⟩ lo hi top (h.kept hb) hok false ⟨fun e => (by cases e), fun e => absurd e hno⟩
  clear h hok hno
  obtain ⟨lv, K, P, B, Q⟩ := n
  obtain ⟨kA, kc, pA, pc, bA, bc, qA, qc⟩ := a
  unfold ndCs at *
  simp only at *
  generalize K.length = kn at *
  generalize P.length = pn at *
  generalize B.length = bn at *
  generalize Q.length = qn at *
  go_enter Try.func6, Try.ntmps6
  go_upto_region 1 with fail
  have HB := Lib.hid (B3.new W (.cells #[.int .i64 cB, .int .i64 cY, .int .i64 cF, .int .i64 cN, .int .i64 cU, .int .i64 cL, .int .i64 cKy, .int .i64 cV] 23) (.cells #[.string lo, .string hi, .bool top] 25) (.cells #[.int .i64 lv, .slice kA kn kc, .slice pA pn pc, .slice bA bn bc, .slice qA qn qc] 31))
  generalize ((W.alloc (.cells #[.int .i64 cB, .int .i64 cY, .int .i64 cF, .int .i64 cN, .int .i64 cU, .int .i64 cL, .int .i64 cKy, .int .i64 cV] 23)).alloc (.cells #[.string lo, .string hi, .bool top] 25)).alloc (.cells #[.int .i64 lv, .slice kA kn kc, .slice pA pn pc, .slice bA bn bc, .slice qA qn qc] 31) = w1 at *
  obtain ⟨g, hg⟩ : ∃ g, g = W.heap.size := ⟨_, rfl⟩
  rw [← hg] at HB
  simp only [← hg]
  clear hg
  obtain ⟨g0, g1, g2, g3, g4, g5, g6, g7⟩ := box8 HB.out.x
  obtain ⟨e0, e1, e2⟩ := box3 HB.out.y
  obtain ⟨d0, d1, d2, d3, d4⟩ := box5 HB.out.z
  go_wp2_with (first | (go_at_call 7; refine (cR _ HB.out.below).out.mono ?_; rintro e w2 ⟨rfl, hb⟩; replace HB := Lib.hid (HB.out.kept hb); clear hb cR g0 g1 g2 g3 g4 g5 g6 g7 e0 e1 e2 d0 d1 d2 d3 d4; obtain ⟨g0, g1, g2, g3, g4, g5, g6, g7⟩ := box8 HB.out.x; obtain ⟨e0, e1, e2⟩ := box3 HB.out.y; obtain ⟨d0, d1, d2, d3, d4⟩ := box5 HB.out.z) | (go_at_call 8; refine (cA _).out.mono ?_; rintro e w9 ⟨rfl, hb⟩; have HF := Lib.hid (HB.out.kept hb).below; clear hb))
  go_ret
  exact ⟨rfl, HF.out⟩
set_option maxRecDepth 100000 in
set_option maxHeartbeats 16000000 in
theorem CleaveRight_yes (cB cY cF cN cU cL cKy cV : Int) (lo hi : ByteArray) (top : Bool) (n : Nd) (a : At) (W : World) (h : NdIn W n a) (hok : NdOk n) (hyes : Ok ⟨cB, cY, cF, cN, cU, cL, cKy, cV⟩ lo hi top n) : Calls Try.prog 6 #[.agg #[.int .i64 cB, .int .i64 cY, .int .i64 cF, .int .i64 cN, .int .i64 cU, .int .i64 cL, .int .i64 cKy, .int .i64 cV], .agg #[.string lo, .string hi, .bool top], .agg (ndCs n a)] W fun e w' => e = .returned (.bool true) ∧ Below W.heap.size W w' := by
  have cA := fun w => Lib.hid (awake_any w)
  have cR : ∀ w, Below W.heap.size W w → Hid (Calls Try.prog 7 #[.agg #[.int .i64 cB, .int .i64 cY, .int .i64 cF, .int .i64 cN, .int .i64 cU, .int .i64 cL, .int .i64 cKy, .int .i64 cV], .agg #[.string lo, .string hi, .bool top], .agg (ndCs n a)] w fun e w' => e = .returned (.bool true) ∧ Below w.heap.size w w') := fun w hb => right_any ⟨cB, cY, cF, cN, cU, cL, cKy, cV⟩ lo hi top (h.kept hb) hok true ⟨fun _ => hyes, fun _ => rfl⟩
  obtain ⟨hf, hlo, hhi, -, hrn⟩ := hyes
  obtain ⟨H, hH⟩ : ∃ H, H = halfN n := ⟨_, rfl⟩
  have hff := half_fit hrn hf
  have hfm := half_form hrn
  have hno := half_none hrn
  have hbk := half_back hrn
  have hrt := half_right hrn
  have hkd := half_kid hrn hok.kid
  have cH : ∀ w, Below W.heap.size W w → Hid (Calls Try.prog 10 #[.agg (ndCs n a)] w fun e w' => (∃ z1 z2, e = .returned (.tuple #[.agg (ndCs H.1 z1), .agg (ndCs H.2.1 z2), .string H.2.2.1, .bool H.2.2.2]) ∧ NdIn w' H.1 z1 ∧ NdIn w' H.2.1 z2) ∧ Below w.heap.size w w') := fun w hb => (Halve_any (h.kept hb) hrn hf).mono fun e w' ⟨⟨v, he, hv⟩, hb⟩ => by
    rw [← hH] at hv
    obtain ⟨z1, z2, hv, h1, h2⟩ := hv
    exact ⟨⟨z1, z2, by rw [he, hv], h1.in_, h2.in_⟩, hb⟩
  rw [← hH] at hff hfm hno hbk hrt hkd
  have cJ : H.2.2.2 = true → ∀ (w : World) (z1 z2 : At), NdIn w H.1 z1 → NdIn w H.2.1 z2 → Hid (Calls Try.prog 14 #[.agg (ndCs H.1 z1), .string H.2.2.1, .agg (ndCs H.2.1 z2)] w fun e w' => (∃ z, e = .returned (.tuple #[.agg (ndCs n z), .bool true]) ∧ NdIn w' n z) ∧ Below w.heap.size w w') := fun ho w z1 z2 h1 h2 => (Join_any H.2.2.1 h1 h2 hff.1 hff.2.1 hfm.1 hfm.2).mono fun e w' ⟨⟨v, he, hv⟩, hb⟩ => by
    rw [hbk ho] at hv
    obtain ⟨z, hv, hz⟩ := hv
    exact ⟨⟨z, by rw [he, hv], hz⟩, hb⟩
  have cR3 : ∀ (w : World) (z : At), NdIn w n z → Hid (Calls Try.prog 19 #[.agg #[.int .i64 cB, .int .i64 cY, .int .i64 cF, .int .i64 cN, .int .i64 cU, .int .i64 cL, .int .i64 cKy, .int .i64 cV], .agg #[.string lo, .string hi, .bool top], .agg (ndCs n z)] w fun e w' => e = .returned (.bool true) ∧ Below w.heap.size w w') := fun w z hz => (RRight_any ⟨cB, cY, cF, cN, cU, cL, cKy, cV⟩ lo hi top hz hf hok.kid (Nat.le_trans hlo (by decide))).mono fun e w' ⟨⟨v, he, hv⟩, hb⟩ => ⟨by rw [he, hv.2 hrn], hb⟩
  have cR1 : H.2.2.2 = true → ∀ (w : World) (z : At), NdIn w H.1 z → Hid (Calls Try.prog 19 #[.agg #[.int .i64 cB, .int .i64 cY, .int .i64 cF, .int .i64 cN, .int .i64 cU, .int .i64 cL, .int .i64 cKy, .int .i64 cV], .agg #[.string lo, .string H.2.2.1, .bool false], .agg (ndCs H.1 z)] w fun e w' => e = .returned (.bool true) ∧ Below w.heap.size w w') := fun ho w z hz => (RRight_any ⟨cB, cY, cF, cN, cU, cL, cKy, cV⟩ lo H.2.2.1 false hz hff.1 hkd.1 (Nat.le_trans hlo (by decide))).mono fun e w' ⟨⟨v, he, hv⟩, hb⟩ => ⟨by rw [he, hv.2 (hrt ho).2.2.2.1], hb⟩
  have cR2 : H.2.2.2 = true → ∀ (w : World) (z : At), NdIn w H.2.1 z → Hid (Calls Try.prog 19 #[.agg #[.int .i64 cB, .int .i64 cY, .int .i64 cF, .int .i64 cN, .int .i64 cU, .int .i64 cL, .int .i64 cKy, .int .i64 cV], .agg #[.string H.2.2.1, .string hi, .bool top], .agg (ndCs H.2.1 z)] w fun e w' => e = .returned (.bool true) ∧ Below w.heap.size w w') := fun ho w z hz => (RRight_any ⟨cB, cY, cF, cN, cU, cL, cKy, cV⟩ H.2.2.1 hi top hz hff.2.1 hkd.2 (Nat.le_trans hff.2.2 (by decide))).mono fun e w' ⟨⟨v, he, hv⟩, hb⟩ => ⟨by rw [he, hv.2 (hrt ho).2.2.2.2], hb⟩
  have cI : H.2.2.2 = true → ∀ w : World, Hid (Calls Try.prog 17 #[.agg #[.string lo, .string hi, .bool top], .string H.2.2.1] w fun e w' => e = .returned (.bool true) ∧ Below w.heap.size w w') := fun ho w => by
    have := RIn_any lo hi top H.2.2.1 w (Nat.le_trans hlo (by decide)) (Nat.le_trans hff.2.2 (by decide))
    rw [(hrt ho).1] at this
    exact this
  have cKe : H.2.2.2 = true → ∀ w : World, Hid (Calls Try.prog 18 #[.agg #[.int .i64 cB, .int .i64 cY, .int .i64 cF, .int .i64 cN, .int .i64 cU, .int .i64 cL, .int .i64 cKy, .int .i64 cV], .string H.2.2.1] w fun e w' => e = .returned (.bool true) ∧ Below w.heap.size w w') := fun ho w => by
    have := RKey_any ⟨cB, cY, cF, cN, cU, cL, cKy, cV⟩ H.2.2.1 w
    rw [(hrt ho).2.2.1] at this
    exact this
  have hne : H.2.2.2 = true → (H.2.2.1.toList == lo.toList) = false := fun ho => by
    rw [ba_toList, decide_eq_false (hrt ho).2.1]
  obtain ⟨t, ht⟩ : ∃ t, t = fitsN ⟨cB, cY, cF, cN, cU, cL, cKy, cV⟩ H.1 H.2.1 := ⟨_, rfl⟩
  have cF1 : ∀ (w : World) (z1 z2 : At), Hid (Calls Try.prog 15 #[.agg #[.int .i64 cB, .int .i64 cY, .int .i64 cF, .int .i64 cN, .int .i64 cU, .int .i64 cL, .int .i64 cKy, .int .i64 cV], .agg (ndCs H.1 z1), .agg (ndCs H.2.1 z2)] w fun e w' => e = .returned (.bool t) ∧ Below w.heap.size w w') := fun w z1 z2 => by
    rw [ht]
    exact Fits_any ⟨cB, cY, cF, cN, cU, cL, cKy, cV⟩ z1 z2 hff.1 hff.2.1 w
  clear hff hfm hbk hrt hkd hno hH h hok hf hrn hlo hhi ht
  obtain ⟨⟨l1, K1, P1, B1, Q1⟩, ⟨l2, K2, P2, B2, Q2⟩, p, ok⟩ := H
  obtain ⟨lv, K, P, B, Q⟩ := n
  obtain ⟨kA, kc, pA, pc, bA, bc, qA, qc⟩ := a
  unfold ndCs at *
  simp only at *
  generalize K.length = kn at *
  generalize P.length = pn at *
  generalize B.length = bn at *
  generalize Q.length = qn at *
  generalize K1.length = k1n at *
  generalize P1.length = p1n at *
  generalize B1.length = b1n at *
  generalize Q1.length = q1n at *
  generalize K2.length = k2n at *
  generalize P2.length = p2n at *
  generalize B2.length = b2n at *
  generalize Q2.length = q2n at *
  go_enter Try.func6, Try.ntmps6
  go_upto_region 1 with fail
  have HB := Lib.hid (B3.new W (.cells #[.int .i64 cB, .int .i64 cY, .int .i64 cF, .int .i64 cN, .int .i64 cU, .int .i64 cL, .int .i64 cKy, .int .i64 cV] 23) (.cells #[.string lo, .string hi, .bool top] 25) (.cells #[.int .i64 lv, .slice kA kn kc, .slice pA pn pc, .slice bA bn bc, .slice qA qn qc] 31))
  generalize ((W.alloc (.cells #[.int .i64 cB, .int .i64 cY, .int .i64 cF, .int .i64 cN, .int .i64 cU, .int .i64 cL, .int .i64 cKy, .int .i64 cV] 23)).alloc (.cells #[.string lo, .string hi, .bool top] 25)).alloc (.cells #[.int .i64 lv, .slice kA kn kc, .slice pA pn pc, .slice bA bn bc, .slice qA qn qc] 31) = w1 at *
  obtain ⟨g, hg⟩ : ∃ g, g = W.heap.size := ⟨_, rfl⟩
  rw [← hg] at HB
  simp only [← hg]
  clear hg
  obtain ⟨g0, g1, g2, g3, g4, g5, g6, g7⟩ := box8 HB.out.x
  obtain ⟨e0, e1, e2⟩ := box3 HB.out.y
  obtain ⟨d0, d1, d2, d3, d4⟩ := box5 HB.out.z
  go_upto_region 4 with (first | (go_at_call 7; refine (cR _ HB.out.below).out.mono ?_; rintro e w2 ⟨rfl, hb⟩; replace HB := Lib.hid (HB.out.kept hb); clear hb cR g0 g1 g2 g3 g4 g5 g6 g7 e0 e1 e2 d0 d1 d2 d3 d4; obtain ⟨g0, g1, g2, g3, g4, g5, g6, g7⟩ := box8 HB.out.x; obtain ⟨e0, e1, e2⟩ := box3 HB.out.y; obtain ⟨d0, d1, d2, d3, d4⟩ := box5 HB.out.z) | (go_at_call 10; refine (cH _ HB.out.below).out.mono ?_; rintro e w3 ⟨⟨z1, z2, rfl, hz1, hz2⟩, hb⟩; have HZ1 := Lib.hid hz1; have HZ2 := Lib.hid hz2; replace HB := Lib.hid (HB.out.kept hb); clear hz1 hz2 hb cH g0 g1 g2 g3 g4 g5 g6 g7 e0 e1 e2 d0 d1 d2 d3 d4; obtain ⟨g0, g1, g2, g3, g4, g5, g6, g7⟩ := box8 HB.out.x; obtain ⟨e0, e1, e2⟩ := box3 HB.out.y; obtain ⟨d0, d1, d2, d3, d4⟩ := box5 HB.out.z))
  clear g0 g1 g2 g3 g4 g5 g6 g7 e0 e1 e2 d0 d1 d2 d3 d4
  have h2n := two_new w3 (.cells #[.int .i64 l1, .slice z1.kA k1n z1.kc, .slice z1.pA p1n z1.pc, .slice z1.bA b1n z1.bc, .slice z1.qA q1n z1.qc] 31) (.cells #[.int .i64 l2, .slice z2.kA k2n z2.kc, .slice z2.pA p2n z2.pc, .slice z2.bA b2n z2.bc, .slice z2.qA q2n z2.qc] 31)
  generalize (w3.alloc (.cells #[.int .i64 l1, .slice z1.kA k1n z1.kc, .slice z1.pA p1n z1.pc, .slice z1.bA b1n z1.bc, .slice z1.qA q1n z1.qc] 31)).alloc (.cells #[.int .i64 l2, .slice z2.kA k2n z2.kc, .slice z2.pA p2n z2.pc, .slice z2.bA b2n z2.bc, .slice z2.qA q2n z2.qc] 31) = w4 at *
  obtain ⟨ha, hb, hbl⟩ := h2n
  obtain ⟨qw4, hq⟩ : ∃ q, q = w3.heap.size := ⟨_, rfl⟩
  simp only [← hq] at ha hb ⊢
  clear hq
  have HA := Lib.hid ha
  have HC := Lib.hid hb
  replace HZ1 := Lib.hid (HZ1.out.kept hbl)
  replace HZ2 := Lib.hid (HZ2.out.kept hbl)
  replace HB := Lib.hid (HB.out.kept hbl)
  clear ha hb hbl
  obtain ⟨g0, g1, g2, g3, g4, g5, g6, g7⟩ := box8 HB.out.x
  obtain ⟨e0, e1, e2⟩ := box3 HB.out.y
  obtain ⟨d0, d1, d2, d3, d4⟩ := box5 HB.out.z
  cases ok with
  | false =>
    clear cJ cR1 cR2 cR3 cI cKe hne cF1
    go_wp2_with (go_at_call 8; refine (cA _).out.mono ?_; rintro e w9 ⟨rfl, hb⟩; have HF := Lib.hid (HB.out.kept hb).below; clear hb)
    go_ret
    exact ⟨rfl, HF.out⟩
  | true =>
    replace cJ := cJ rfl
    replace cR1 := fun w hz => cR1 rfl w z1 hz
    replace cR2 := fun w hz => cR2 rfl w z2 hz
    replace cI := cI rfl
    replace cKe := cKe rfl
    replace hne := hne rfl
    replace cF1 := fun w => cF1 w z1 z2
    go_upto_region 6 with fail
    have z0 := fun q : Drift.Tide [] w4 [] => Drift.Tide.cell e0 (by simp) q
    have z1' := fun q : Drift.Tide [] w4 [] => Drift.Tide.cell e1 (by simp) q
    have z2' := fun q : Drift.Tide [] w4 [] => Drift.Tide.cell e2 (by simp) q
    clear g0 g1 g2 g3 g4 g5 g6 g7 e0 e1 e2 d0 d1 d2 d3 d4
    refine DriftW.wp_region_drift [] [(0,[]),(1,[]),(2,[]),(3,[]),(4,[]),(5,[]),(6,[]),(7,[]),(8,[]),(9,[]),(10,[11]),(11,[]),(12,[])] [12] [10, 11] (by kernel_rfl) (by kernel_rfl) (by simp) ?_
    simp only [Drift.pick, Drift.opsAt, List.getElem?_toArray, List.getElem?_cons_zero, List.getElem?_cons_succ, List.cons_append, List.nil_append, List.filterMap_cons, List.filterMap_nil]
    repeat (refine DriftW.walk_step (fun K hK => ?_); go_simp; (refine hK _ ?_; clear hK K))
    refine DriftW.walk_make rfl (Drift.mkwalk_one rfl (fun b => .pointer (some ⟨b, 0, none⟩)) (.cells #[.string ⟨#[]⟩, .string ⟨#[]⟩, .bool false] 25) (fun W => by go_simp) fun _ _ => Drift.mkwalk_nil) (fun b => .pointer (some ⟨b, 0, none⟩)) (.cells #[.string ⟨#[]⟩, .string ⟨#[]⟩, .bool false] 25) (fun W => by go_simp) (fun ga hga _ => ?_)
    refine DriftW.walk_make_apart rfl Drift.mkwalk_nil (fun b => .pointer (some ⟨b, 0, none⟩)) (.cells #[.string ⟨#[]⟩, .string ⟨#[]⟩, .bool false] 25) (fun W => by go_simp) (fun gb hgb0 hn0 _ => ?_)
    have hne2 : gb ≠ ga := hn0 (ga, .cells #[.string ⟨#[]⟩, .string ⟨#[]⟩, .bool false] 25) (by simp)
    refine DriftW.walk_event_at rfl Drift.mkwalk_nil [ga] (fun k hk => ?_) (EvBoxS ga #[.string lo, .string p, .bool false]) (fun W2 hk hl2 => ?_) (fun v w5 hv hI hl2 => ?_)
    · obtain rfl : k = ga := by simpa using hk
      exact ⟨hga, (k, .cells #[.string ⟨#[]⟩, .string ⟨#[]⟩, .bool false] 25), by simp, rfl⟩
    · have hx2 := hl2 (ga, .cells #[.string ⟨#[]⟩, .string ⟨#[]⟩, .bool false] 25) (by simp)
      obtain ⟨a0, a1, a2⟩ := box3 hx2
      have fa0 := free3 hx2 0; have fa1 := free3 hx2 1; have fa2 := free3 hx2 2
      have hs5 := set3_at hx2 (.string lo) (.string p) (.bool false)
      have hi5 := into_set3' W2 ga (.string lo) (.string p) (.bool false)
      unfold set3 at hs5 hi5
      have HS5 := Lib.hid hs5
      have HI5 := Lib.hid hi5
      clear hs5 hi5
      go_simp
      exact ⟨⟨rfl, HS5.out⟩, HI5.out⟩
    obtain ⟨rfl, hv⟩ := hv
    refine DriftW.walk_nil ?_
    intro w6 hb6 hl6
    have HL := Lib.hid (kept3 hv hb6)
    have hgb := hl6 (gb, .cells #[.string ⟨#[]⟩, .string ⟨#[]⟩, .bool false] 25) (DriftW.mem_keepG.2 ⟨by simp, by simpa using hne2⟩)
    have HR0 := Lib.hid hgb
    have hbl : Below w4.heap.size w4 w6 := hI.below.trans (hb6.mono hI.size)
    clear hga hn0 hl2 hI hv hb6 hl6 hgb z0 z1' z2'
    simp only [List.length_cons, List.length_nil, List.drop_succ_cons, List.drop_zero, Nat.zero_add, Nat.reduceAdd]
    obtain ⟨t0, t1, t2⟩ := box3 HR0.out
    have fa0 := free3 HR0.out 0; have fa1 := free3 HR0.out 1; have fa2 := free3 HR0.out 2
    go_upto_region 7 with fail
    clear t0 t1 t2 fa0 fa1 fa2
    have HR := Lib.hid (set3_at HR0.out (.string p) (.string hi) (.bool top))
    have hb7 : Below w4.heap.size w4 (set3 w6 gb (.string p) (.string hi) (.bool top)) := set3_below hbl hgb0 _ _ _
    have HL7 : Hid ((set3 w6 gb (.string p) (.string hi) (.bool top)).heap[ga]? = some (.cells #[.string lo, .string p, .bool false] 25 (0, 0))) := by
      unfold Hid set3
      rw [set_other _ (Ne.symm hne2), set_other _ (Ne.symm hne2), set_other _ (Ne.symm hne2)]
      exact HL.out
    unfold set3 at HR hb7 HL7
    generalize ((w6.setCell ⟨gb, 0, none⟩ (.string p)).setCell ⟨gb, 1, none⟩ (.string hi)).setCell ⟨gb, 2, none⟩ (.bool top) = w7 at *
    replace HB := Lib.hid (HB.out.kept hb7)
    replace HA := Lib.hid (kept3 HA.out hb7)
    replace HC := Lib.hid (kept3 HC.out hb7)
    replace HZ1 := Lib.hid (HZ1.out.kept hb7)
    replace HZ2 := Lib.hid (HZ2.out.kept hb7)
    clear HL HR0 hbl hb7 hne2 hgb0
    have HL := HL7
    clear HL7
    obtain ⟨g0, g1, g2, g3, g4, g5, g6, g7⟩ := box8 HB.out.x
    obtain ⟨e0, e1, e2⟩ := box3 HB.out.y
    obtain ⟨d0, d1, d2, d3, d4⟩ := box5 HB.out.z
    obtain ⟨u0, u1, u2, u3, u4⟩ := box5 HA.out
    obtain ⟨v0, v1, v2, v3, v4⟩ := box5 HC.out
    obtain ⟨s0, s1, s2⟩ := box3 HL.out
    obtain ⟨t0, t1, t2⟩ := box3 HR.out
    go_upto_region 9 with (first
      | (go_at_call 17; refine (cI _).out.mono ?_; rintro e w8 ⟨rfl, hb⟩; replace HB := Lib.hid (HB.out.kept hb); replace HA := Lib.hid (kept3 HA.out hb); replace HC := Lib.hid (kept3 HC.out hb); replace HZ1 := Lib.hid (HZ1.out.kept hb); replace HZ2 := Lib.hid (HZ2.out.kept hb); replace HL := Lib.hid (kept3 HL.out hb); replace HR := Lib.hid (kept3 HR.out hb); clear hb cI g0 g1 g2 g3 g4 g5 g6 g7 e0 e1 e2 d0 d1 d2 d3 d4 u0 u1 u2 u3 u4 v0 v1 v2 v3 v4 s0 s1 s2 t0 t1 t2; obtain ⟨g0, g1, g2, g3, g4, g5, g6, g7⟩ := box8 HB.out.x; obtain ⟨e0, e1, e2⟩ := box3 HB.out.y; obtain ⟨d0, d1, d2, d3, d4⟩ := box5 HB.out.z; obtain ⟨u0, u1, u2, u3, u4⟩ := box5 HA.out; obtain ⟨v0, v1, v2, v3, v4⟩ := box5 HC.out; obtain ⟨s0, s1, s2⟩ := box3 HL.out; obtain ⟨t0, t1, t2⟩ := box3 HR.out)
      | (go_at_call 18; refine (cKe _).out.mono ?_; rintro e w9 ⟨rfl, hb⟩; replace HB := Lib.hid (HB.out.kept hb); replace HA := Lib.hid (kept3 HA.out hb); replace HC := Lib.hid (kept3 HC.out hb); replace HZ1 := Lib.hid (HZ1.out.kept hb); replace HZ2 := Lib.hid (HZ2.out.kept hb); replace HL := Lib.hid (kept3 HL.out hb); replace HR := Lib.hid (kept3 HR.out hb); clear hb cKe g0 g1 g2 g3 g4 g5 g6 g7 e0 e1 e2 d0 d1 d2 d3 d4 u0 u1 u2 u3 u4 v0 v1 v2 v3 v4 s0 s1 s2 t0 t1 t2; obtain ⟨g0, g1, g2, g3, g4, g5, g6, g7⟩ := box8 HB.out.x; obtain ⟨e0, e1, e2⟩ := box3 HB.out.y; obtain ⟨d0, d1, d2, d3, d4⟩ := box5 HB.out.z; obtain ⟨u0, u1, u2, u3, u4⟩ := box5 HA.out; obtain ⟨v0, v1, v2, v3, v4⟩ := box5 HC.out; obtain ⟨s0, s1, s2⟩ := box3 HL.out; obtain ⟨t0, t1, t2⟩ := box3 HR.out)
      | (go_at_call 19; refine (cR1 _ HZ1.out).out.mono ?_; rintro e w10 ⟨rfl, hb⟩; replace HB := Lib.hid (HB.out.kept hb); replace HA := Lib.hid (kept3 HA.out hb); replace HC := Lib.hid (kept3 HC.out hb); replace HZ1 := Lib.hid (HZ1.out.kept hb); replace HZ2 := Lib.hid (HZ2.out.kept hb); replace HL := Lib.hid (kept3 HL.out hb); replace HR := Lib.hid (kept3 HR.out hb); clear hb cR1 g0 g1 g2 g3 g4 g5 g6 g7 e0 e1 e2 d0 d1 d2 d3 d4 u0 u1 u2 u3 u4 v0 v1 v2 v3 v4 s0 s1 s2 t0 t1 t2; obtain ⟨g0, g1, g2, g3, g4, g5, g6, g7⟩ := box8 HB.out.x; obtain ⟨e0, e1, e2⟩ := box3 HB.out.y; obtain ⟨d0, d1, d2, d3, d4⟩ := box5 HB.out.z; obtain ⟨u0, u1, u2, u3, u4⟩ := box5 HA.out; obtain ⟨v0, v1, v2, v3, v4⟩ := box5 HC.out; obtain ⟨s0, s1, s2⟩ := box3 HL.out; obtain ⟨t0, t1, t2⟩ := box3 HR.out)
      | (go_at_call 19; refine (cR2 _ HZ2.out).out.mono ?_; rintro e w11 ⟨rfl, hb⟩; replace HB := Lib.hid (HB.out.kept hb); replace HA := Lib.hid (kept3 HA.out hb); replace HC := Lib.hid (kept3 HC.out hb); replace HZ1 := Lib.hid (HZ1.out.kept hb); replace HZ2 := Lib.hid (HZ2.out.kept hb); replace HL := Lib.hid (kept3 HL.out hb); replace HR := Lib.hid (kept3 HR.out hb); clear hb cR2 g0 g1 g2 g3 g4 g5 g6 g7 e0 e1 e2 d0 d1 d2 d3 d4 u0 u1 u2 u3 u4 v0 v1 v2 v3 v4 s0 s1 s2 t0 t1 t2; obtain ⟨g0, g1, g2, g3, g4, g5, g6, g7⟩ := box8 HB.out.x; obtain ⟨e0, e1, e2⟩ := box3 HB.out.y; obtain ⟨d0, d1, d2, d3, d4⟩ := box5 HB.out.z; obtain ⟨u0, u1, u2, u3, u4⟩ := box5 HA.out; obtain ⟨v0, v1, v2, v3, v4⟩ := box5 HC.out; obtain ⟨s0, s1, s2⟩ := box3 HL.out; obtain ⟨t0, t1, t2⟩ := box3 HR.out))
    replace cJ := fun w h1 h2 => cJ w z1 z2 h1 h2
    go_upto_region 10 with (go_at_call 14; refine (cJ _ HZ1.out HZ2.out).out.mono ?_; rintro e w12 ⟨⟨z3, rfl, hz3⟩, hb⟩; have HZ3 := Lib.hid hz3; replace HB := Lib.hid (HB.out.kept hb); replace HA := Lib.hid (kept3 HA.out hb); replace HC := Lib.hid (kept3 HC.out hb); replace HZ1 := Lib.hid (HZ1.out.kept hb); replace HZ2 := Lib.hid (HZ2.out.kept hb); replace HL := Lib.hid (kept3 HL.out hb); replace HR := Lib.hid (kept3 HR.out hb); clear hz3 hb cJ g0 g1 g2 g3 g4 g5 g6 g7 e0 e1 e2 d0 d1 d2 d3 d4 u0 u1 u2 u3 u4 v0 v1 v2 v3 v4 s0 s1 s2 t0 t1 t2)
    have hm := heap_alloc_new w12 (.cells #[.int .i64 lv, .slice z3.kA kn z3.kc, .slice z3.pA pn z3.pc, .slice z3.bA bn z3.bc, .slice z3.qA qn z3.qc] 31)
    have hbl : Below w12.heap.size w12 (w12.alloc (.cells #[.int .i64 lv, .slice z3.kA kn z3.kc, .slice z3.pA pn z3.pc, .slice z3.bA bn z3.bc, .slice z3.qA qn z3.qc] 31)) := (Below.refl _ _).alloc (Nat.le_refl _) _
    generalize w12.alloc (.cells #[.int .i64 lv, .slice z3.kA kn z3.kc, .slice z3.pA pn z3.pc, .slice z3.bA bn z3.bc, .slice z3.qA qn z3.qc] 31) = w13 at *
    obtain ⟨qw13, hq⟩ : ∃ q, q = w12.heap.size := ⟨_, rfl⟩
    simp only [← hq] at hm ⊢
    clear hq
    have HM := Lib.hid hm
    replace HB := Lib.hid (HB.out.kept hbl)
    replace HA := Lib.hid (kept3 HA.out hbl)
    replace HC := Lib.hid (kept3 HC.out hbl)
    replace HZ1 := Lib.hid (HZ1.out.kept hbl)
    replace HZ2 := Lib.hid (HZ2.out.kept hbl)
    replace HL := Lib.hid (kept3 HL.out hbl)
    replace HR := Lib.hid (kept3 HR.out hbl)
    replace HZ3 := Lib.hid (HZ3.out.kept hbl)
    clear hm hbl
    obtain ⟨g0, g1, g2, g3, g4, g5, g6, g7⟩ := box8 HB.out.x
    obtain ⟨e0, e1, e2⟩ := box3 HB.out.y
    obtain ⟨d0, d1, d2, d3, d4⟩ := box5 HB.out.z
    obtain ⟨u0, u1, u2, u3, u4⟩ := box5 HA.out
    obtain ⟨v0, v1, v2, v3, v4⟩ := box5 HC.out
    obtain ⟨s0, s1, s2⟩ := box3 HL.out
    obtain ⟨t0, t1, t2⟩ := box3 HR.out
    obtain ⟨m0, m1, m2, m3, m4⟩ := box5 HM.out
    replace cR3 := cR3
    cases t with
    | false =>
      go_wp2_with (first
        | (go_at_call 15; refine (cF1 _).out.mono ?_; rintro e w14 ⟨rfl, hb⟩; replace HB := Lib.hid (HB.out.kept hb); clear hb cF1)
        | (go_at_call 8; refine (cA _).out.mono ?_; rintro e w9 ⟨rfl, hb⟩; have HF := Lib.hid (HB.out.kept hb).below; clear hb))
      go_ret
      exact ⟨rfl, HF.out⟩
    | true =>
      go_wp2_with (first
        | (go_at_call 15; refine (cF1 _).out.mono ?_; rintro e w14 ⟨rfl, hb⟩; replace HB := Lib.hid (HB.out.kept hb); replace HA := Lib.hid (kept3 HA.out hb); replace HC := Lib.hid (kept3 HC.out hb); replace HZ1 := Lib.hid (HZ1.out.kept hb); replace HZ2 := Lib.hid (HZ2.out.kept hb); replace HL := Lib.hid (kept3 HL.out hb); replace HR := Lib.hid (kept3 HR.out hb); replace HM := Lib.hid (kept3 HM.out hb); replace HZ3 := Lib.hid (HZ3.out.kept hb); clear hb cF1 g0 g1 g2 g3 g4 g5 g6 g7 e0 e1 e2 d0 d1 d2 d3 d4 u0 u1 u2 u3 u4 v0 v1 v2 v3 v4 s0 s1 s2 t0 t1 t2 m0 m1 m2 m3 m4; obtain ⟨g0, g1, g2, g3, g4, g5, g6, g7⟩ := box8 HB.out.x; obtain ⟨e0, e1, e2⟩ := box3 HB.out.y; obtain ⟨d0, d1, d2, d3, d4⟩ := box5 HB.out.z; obtain ⟨u0, u1, u2, u3, u4⟩ := box5 HA.out; obtain ⟨v0, v1, v2, v3, v4⟩ := box5 HC.out; obtain ⟨s0, s1, s2⟩ := box3 HL.out; obtain ⟨t0, t1, t2⟩ := box3 HR.out; obtain ⟨m0, m1, m2, m3, m4⟩ := box5 HM.out)
        | (go_at_call 19; refine (cR3 _ _ HZ3.out).out.mono ?_; rintro e w15 ⟨rfl, hb⟩; replace HB := Lib.hid (HB.out.kept hb); clear hb cR3)
        | (go_at_call 8; refine (cA _).out.mono ?_; rintro e w9 ⟨rfl, hb⟩; have HF := Lib.hid (HB.out.kept hb).below; clear hb))
      go_ret
      exact ⟨rfl, HF.out⟩
theorem CleaveRight_walk (cB cY cF cN cU cL cKy cV : Int) (lo hi : ByteArray) (top : Bool) (n : Nd) (a : At) (W : World) (h : NdIn W n a) (hok : NdOk n) : Calls Try.prog 6 #[.agg #[.int .i64 cB, .int .i64 cY, .int .i64 cF, .int .i64 cN, .int .i64 cU, .int .i64 cL, .int .i64 cKy, .int .i64 cV], .agg #[.string lo, .string hi, .bool top], .agg (ndCs n a)] W fun e w' => e = .returned (.bool true) ∧ Below W.heap.size W w' := by
  by_cases hc : Ok ⟨cB, cY, cF, cN, cU, cL, cKy, cV⟩ lo hi top n
  · exact CleaveRight_yes cB cY cF cN cU cL cKy cV lo hi top n a W h hok hc
  · exact CleaveRight_no cB cY cF cN cU cL cKy cV lo hi top n a W h hok hc
end No
end Go.Proofs.Ytohnllclkpflaaa

namespace Go.Proofs.Ytohnllclkpflaaa.CleaveRight
open Go.ChangeShapes Go.WideShapes Go.ChangeAt Go.RowKit
open Go.ChangeMaps (open_string shut_string)

theorem own : ownKnob Try.prog.godebug = none := by kernel_rfl

set_option maxRecDepth 100000 in
theorem contract (H : Type) (enc : TypeId × Value → H) (W : World) (base : Nat) (args : Array Value) (ds gs : List (DataW H)) (before : List MemPlace)
    (hval : ∀ (j : Nat) t v, Try.f6.params[j]? = some t → args[j]? = some v → Value.okWide Try.prog W .any base t v)
    (hW : DataW.Whole enc Try.prog Try.f6.params.toList Rows.cleaveRightSpec.vars false W args.toList ds gs before)
    (hsz : (DataW.weightsEach Try.prog (Try.f6.params.toList ++ Rows.cleaveRightSpec.plain.varTypes Try.prog) (ds ++ gs)).all (· ≤ reachBytes) = true) :
    Calls Try.prog 6 args W fun e W' => ∃ v, e = .returned v ∧ Rows.cleaveRightSpec.post enc Try.prog Try.f6 false true false false W args v W' := by
  have hW' := hW
  obtain ⟨p, q, hA0, hV, rfl, hfz, hnd⟩ := hW
  have hA : DataW.TrodAll enc Try.prog W 0 (fun _ => true) true Try.f6.params.toList args.toList ds p := hA0
  rw [Try.params6] at hA hval
  obtain ⟨v0, vs0, d0, ds0, p0, q0, hargs0, rfl, rfl, h0, r0⟩ := trodAll_cons hA
  obtain ⟨v1, vs1, d1, ds1, p1, q1, hargs1, rfl, rfl, h1, r1⟩ := trodAll_cons r0
  obtain ⟨v2, vs2, d2, ds2, p2, q2, hargs2, rfl, rfl, h2, r2⟩ := trodAll_cons r1
  obtain ⟨rfl, rfl, rfl⟩ := trodAll_nil r2
  obtain rfl : args = #[v0, v1, v2] := by cases args; simp_all
  obtain ⟨rfl, rfl⟩ := trodVars_none hV
  obtain ⟨cB, cY, cF, cN, cU, cL, cKy, cV, rfl⟩ := Cf.open_cfg (hval 0 23 v0 rfl rfl) h0
  obtain ⟨x1, x1', x1'', y1, y1', y1'', k1, rfl, rfl, rfl, t1, t1', t1''⟩ := Go.Joins.open_agg3 Try.underlying25 (by kernel_rfl) (by kernel_rfl) (hval 1 25 v1 rfl rfl) h1
  obtain ⟨lo, e1, rfl, mlo⟩ := DataW.trod_string Try.underlying9 t1
  obtain ⟨hi, e1', rfl, mhi⟩ := DataW.trod_string Try.underlying9 t1'
  obtain ⟨top, e1'', rfl⟩ := DataW.trod_bool Try.underlying4 t1''
  obtain rfl : x1 = _ := by simpa using e1
  obtain rfl : x1' = _ := by simpa using e1'
  obtain rfl : x1'' = _ := by simpa using e1''
  have zn : ∀ n ∈ d2.weights Try.prog 31, n ≤ reachBytes := fun n hn => by
    have := List.all_eq_true.1 hsz n (DataW.weights_mem_each (j := 2) (by rw [Try.params6]; rfl) rfl n hn)
    simpa using this
  obtain ⟨n, An, rfl, hn, bn⟩ := No.open_node (hval 2 31 v2 rfl rfl) h2 zn
  clear hA0
  simp only [List.append_nil] at hW'
  refine (No.CleaveRight_walk cB cY cF cN cU cL cKy cV lo hi top n An W hn bn).mono fun e W' ⟨he, hg⟩ => ?_
  subst he
  exact ⟨_, rfl, Post.law_post (by kernel_rfl) (by kernel_rfl) hW' rfl rfl rfl Try.underlying4 hg⟩

set_option maxRecDepth 100000 in
theorem lifted (os : Os) (started : os.Started) (H : Type) (enc : TypeId × Value → H) :
    ReturnsInHanded {} Try.checked os 6 .any (Rows.cleaveRightSpec.pre6 enc Try.prog Try.f6 Rows.cleaveRightRow.domain false) (Rows.cleaveRightSpec.post enc Try.prog Try.f6 false true false false) := by
  refine returnsInHanded_of_change_sized (C := Try.checked) own started (by kernel_rfl) Try.func6
    (ChangeSpec.witness6 (enc := enc) (C := Try.checked) false ⟨#[], #[.agg #[.int .i64 0, .int .i64 0, .int .i64 0, .int .i64 0, .int .i64 0, .int .i64 0, .int .i64 0, .int .i64 0], .agg #[.string .empty, .string .empty, .bool false], .agg #[.int .i64 0, .slice none 0 0, .slice none 0 0, .slice none 0 0, .slice none 0 0]], []⟩ 8 (by kernel_rfl) (by kernel_rfl) (by kernel_rfl) (by kernel_rfl)) ?_
  intro W base args ds gs before hval hW _ hsz _
  exact contract H enc W base args ds gs before hval hW hsz

theorem holds : Rows.CleaveRightSaid :=
  OpenClaim.holds_of_wide 6 Try.f6 rfl rfl rfl rfl rfl rfl rfl ⟨rfl, rfl, rfl, rfl, rfl⟩ rfl rfl rfl rfl rfl (by kernel_rfl) Try.func6 (by kernel_rfl)
    (of_decide_eq_true (by kernel_rfl)) (by unfold Func.isWrapper; first | (rw [if_pos (by decide +kernel)]; kernel_rfl) | (rw [if_neg (by decide +kernel)]; exact ⟨rfl, rfl⟩))
    (fun os started H enc _ => lifted os started H enc)
end Go.Proofs.Ytohnllclkpflaaa.CleaveRight
