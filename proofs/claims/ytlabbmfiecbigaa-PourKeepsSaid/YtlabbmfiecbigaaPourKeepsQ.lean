/-
  PourKeeps at every input: it returns true, and changes no argument.
-/
import Derived.Test.YtlabbmfiecbigaaPkBH
import Derived.Test.YtlabbmfiecbigaaRows
import Derived.Test.YtlabbmfiecbigaaPkAA
import Derived.SizedLaws
import Derived.Lib.SmallJoins

namespace Go.Proofs.Ytlabbmfiecbigaa
open Go.RowKit
namespace No
open Mem Lx Bu Lf Fa
set_option maxRecDepth 100000 in
set_option maxHeartbeats 16000000 in
theorem PourKeeps_no (cB cY cF cN cU cL cKy cV : Int) (p k : Nd) (a b : At) (i most : Int) (W : World) (h : NdIn W p a) (h' : NdIn W k b) (hok : NdOk p) (hok' : NdOk k) (hno : ¬ OkP ⟨cB, cY, cF, cN, cU, cL, cKy, cV⟩ p i k) : Calls Try.prog 4 #[.agg #[.int .i64 cB, .int .i64 cY, .int .i64 cF, .int .i64 cN, .int .i64 cU, .int .i64 cL, .int .i64 cKy, .int .i64 cV], .agg (ndCs p a), .int .i64 i, .agg (ndCs k b), .int .i64 most] W fun e w' => e = .returned (.bool true) ∧ Below W.heap.size W w' := by
  have cA := fun w => Lib.hid (PAwake_any w)
  have cR : ∀ w, Below W.heap.size W w → Hid (Calls Try.prog 5 #[.agg #[.int .i64 cB, .int .i64 cY, .int .i64 cF, .int .i64 cN, .int .i64 cU, .int .i64 cL, .int .i64 cKy, .int .i64 cV], .agg (ndCs p a), .int .i64 i, .agg (ndCs k b)] w fun e w' => e = .returned (.bool false) ∧ Below w.heap.size w w') := fun w hb => PRight_any ⟨cB, cY, cF, cN, cU, cL, cKy, cV⟩ i (h.kept hb) (h'.kept hb) hok hok' false ⟨fun e => (by cases e), fun e => absurd e hno⟩
  clear h h' hok hok' hno
  obtain ⟨lv, K, P, B, Q⟩ := p
  obtain ⟨lv2, K2, P2, B2, Q2⟩ := k
  obtain ⟨kA, kc, pA, pc, bA, bc, qA, qc⟩ := a
  obtain ⟨kA2, kc2, pA2, pc2, bA2, bc2, qA2, qc2⟩ := b
  unfold ndCs at *
  simp only at *
  generalize K.length = kn at *
  generalize P.length = pn at *
  generalize B.length = bn at *
  generalize Q.length = qn at *
  generalize K2.length = kn2 at *
  generalize P2.length = pn2 at *
  generalize B2.length = bn2 at *
  generalize Q2.length = qn2 at *
  go_enter Try.func4, Try.ntmps4
  go_upto_region 1 with fail
  have HB := Lib.hid (B3.new W (.cells #[.int .i64 cB, .int .i64 cY, .int .i64 cF, .int .i64 cN, .int .i64 cU, .int .i64 cL, .int .i64 cKy, .int .i64 cV] 23) (.cells #[.int .i64 lv, .slice kA kn kc, .slice pA pn pc, .slice bA bn bc, .slice qA qn qc] 29) (.cells #[.int .i64 lv2, .slice kA2 kn2 kc2, .slice pA2 pn2 pc2, .slice bA2 bn2 bc2, .slice qA2 qn2 qc2] 29))
  generalize ((W.alloc (.cells #[.int .i64 cB, .int .i64 cY, .int .i64 cF, .int .i64 cN, .int .i64 cU, .int .i64 cL, .int .i64 cKy, .int .i64 cV] 23)).alloc (.cells #[.int .i64 lv, .slice kA kn kc, .slice pA pn pc, .slice bA bn bc, .slice qA qn qc] 29)).alloc (.cells #[.int .i64 lv2, .slice kA2 kn2 kc2, .slice pA2 pn2 pc2, .slice bA2 bn2 bc2, .slice qA2 qn2 qc2] 29) = w1 at *
  obtain ⟨g, hg⟩ : ∃ g, g = W.heap.size := ⟨_, rfl⟩
  rw [← hg] at HB
  simp only [← hg]
  clear hg
  obtain ⟨g0, g1, g2, g3, g4, g5, g6, g7⟩ := box8 HB.out.x
  obtain ⟨e0, e1, e2, e3, e4⟩ := box5 HB.out.y
  obtain ⟨d0, d1, d2, d3, d4⟩ := box5 HB.out.z
  go_wp2_with (first | (go_at_call 5; refine (cR _ HB.out.below).out.mono ?_; rintro e w2 ⟨rfl, hb⟩; replace HB := Lib.hid (HB.out.kept hb); clear hb; clear g0 g1 g2 g3 g4 g5 g6 g7 e0 e1 e2 e3 e4 d0 d1 d2 d3 d4; obtain ⟨g0, g1, g2, g3, g4, g5, g6, g7⟩ := box8 HB.out.x; obtain ⟨e0, e1, e2, e3, e4⟩ := box5 HB.out.y; obtain ⟨d0, d1, d2, d3, d4⟩ := box5 HB.out.z) | (go_at_call 6; refine (cA _).out.mono ?_; rintro e w9 ⟨rfl, hb⟩; have HF := Lib.hid (HB.out.kept hb).below; clear hb))
  go_ret
  exact ⟨rfl, HF.out⟩
set_option maxRecDepth 100000 in
set_option maxHeartbeats 16000000 in
theorem PourKeeps_yes (cB cY cF cN cU cL cKy cV : Int) (p k : Nd) (a b : At) (i most : Int) (W : World) (h : NdIn W p a) (h' : NdIn W k b) (hok : NdOk p) (hok' : NdOk k) (hyes : OkP ⟨cB, cY, cF, cN, cU, cL, cKy, cV⟩ p i k) : Calls Try.prog 4 #[.agg #[.int .i64 cB, .int .i64 cY, .int .i64 cF, .int .i64 cN, .int .i64 cU, .int .i64 cL, .int .i64 cKy, .int .i64 cV], .agg (ndCs p a), .int .i64 i, .agg (ndCs k b), .int .i64 most] W fun e w' => e = .returned (.bool true) ∧ Below W.heap.size W w' := by
  have cA := fun w => Lib.hid (PAwake_any w)
  have cR : ∀ w, Below W.heap.size W w → Hid (Calls Try.prog 5 #[.agg #[.int .i64 cB, .int .i64 cY, .int .i64 cF, .int .i64 cN, .int .i64 cU, .int .i64 cL, .int .i64 cKy, .int .i64 cV], .agg (ndCs p a), .int .i64 i, .agg (ndCs k b)] w fun e w' => e = .returned (.bool true) ∧ Below w.heap.size w w') := fun w hb => PRight_any ⟨cB, cY, cF, cN, cU, cL, cKy, cV⟩ i (h.kept hb) (h'.kept hb) hok hok' true ⟨fun _ => hyes, fun _ => rfl⟩
  obtain ⟨H, hH⟩ : ∃ H, H = pourN ⟨cB, cY, cF, cN, cU, cL, cKy, cV⟩ p i k most := ⟨_, rfl⟩
  have hp := hyes.2.2.2.2.1
  have hl := hyes.2.2.2.1
  have hf := hyes.1
  have hk := hyes.2.2.2.2.2
  have hcl := (Right_buf hyes.2.2.1).2
  have hsz := pour_sz (most := most) hp hl hf hyes.2.1 hk
  have hkd := pour_kids (c := ⟨cB, cY, cF, cN, cU, cL, cKy, cV⟩) (p := p) (k := k) (i := i) (most := most)
  have hct := pour_counts (most := most) hp hl hk
  have hlf := pour_left (i := i) (k := k) (most := most) hp hl
  have hkr := pour_kid (most := most) hp hl hk
  have hb1 := hf.buf
  have hb2 := hyes.2.1.buf
  have hb3 := hyes.2.1.prs
  rw [← hH] at hsz hkd hct hlf hkr
  have cH : ∀ w, Below W.heap.size W w → Hid (Calls Try.prog 7 #[.agg #[.int .i64 cB, .int .i64 cY, .int .i64 cF, .int .i64 cN, .int .i64 cU, .int .i64 cL, .int .i64 cKy, .int .i64 cV], .agg (ndCs p a), .int .i64 i, .agg (ndCs k b), .int .i64 most] w fun e w' => (∃ z1 z2, e = .returned (.tuple #[.agg (ndCs H.1 z1), .agg (ndCs H.2.1 z2), .int .i64 (H.2.2 : Int)]) ∧ NdIn w' H.1 z1 ∧ NdIn w' H.2.1 z2) ∧ Below w.heap.size w w') := fun w hb => (Pour_ok (h.kept hb) (h'.kept hb) most hyes).mono fun e w' ⟨⟨v, he, hv⟩, hb⟩ => by
    rw [← hH] at hv
    obtain ⟨z1, z2, hv, h1, h2⟩ := hv
    exact ⟨⟨z1, z2, by rw [he, hv], h1, h2⟩, hb⟩
  obtain ⟨⟨⟨lo, hi, top⟩, ok⟩, hs⟩ : ∃ s, s = kidS p i := ⟨_, rfl⟩
  have e1 : spanS p.piv i ⟨#[]⟩ ⟨#[]⟩ true = ((lo, hi, top), ok) := hs.symm
  have cS : ∀ w, Below W.heap.size W w → Hid (Calls Try.prog 10 #[.slice a.pA p.piv.length a.pc, .int .i64 i, .agg #[.string ⟨#[]⟩, .string ⟨#[]⟩, .bool true]] w fun e w' => e = .returned (.tuple #[.agg #[.string lo, .string hi, .bool top], .bool ok]) ∧ Below w.heap.size w w') := fun w hb => by
    refine (RSpan_any (c := a.pc) (h.kept hb).piv.1 i ⟨#[]⟩ ⟨#[]⟩ true (Nat.zero_le _) hf.sz.piv (Nat.le_trans hf.piv (by decide))).mono fun e w' ⟨he, hb⟩ => ⟨?_, hb⟩
    rw [he, e1]
  have hlo : lo.size ≤ maxLen := by
    have := spanS_size hf.sz.piv (lo := ⟨#[]⟩) (Nat.zero_le _) i ⟨#[]⟩ true
    rw [e1] at this
    exact this
  have cR1 : ∀ (w : World) (z : At), NdIn w H.1 z → Hid (Calls Try.prog 11 #[.agg #[.int .i64 cB, .int .i64 cY, .int .i64 cF, .int .i64 cN, .int .i64 cU, .int .i64 cL, .int .i64 cKy, .int .i64 cV], .agg #[.string ⟨#[]⟩, .string ⟨#[]⟩, .bool true], .agg (ndCs H.1 z)] w fun e w' => e = .returned (.bool true) ∧ Below w.heap.size w w') := fun w z hz => (RRight_sz ⟨cB, cY, cF, cN, cU, cL, cKy, cV⟩ ⟨#[]⟩ ⟨#[]⟩ true hz hsz.1 (by rw [hkd.1]; exact hok.kid) (Nat.zero_le _)).mono fun e w' ⟨⟨v, he, hv⟩, hb⟩ => ⟨by rw [he, hv.2 hlf], hb⟩
  obtain ⟨dL, hdL⟩ : ∃ d, d = cL + (H.2.2 : Int) := ⟨_, rfl⟩
  have cR2 : ok = true → ∀ (w : World) (z : At), NdIn w H.2.1 z → Hid (Calls Try.prog 11 #[.agg #[.int .i64 cB, .int .i64 cY, .int .i64 cF, .int .i64 cN, .int .i64 cU, .int .i64 dL, .int .i64 cKy, .int .i64 cV], .agg #[.string lo, .string hi, .bool top], .agg (ndCs H.2.1 z)] w fun e w' => e = .returned (.bool true) ∧ Below w.heap.size w w') := fun ho w z hz => (RRight_sz ⟨cB, cY, cF, cN, cU, dL, cKy, cV⟩ lo hi top hz hsz.2 (by rw [hkd.2.1]; exact hok'.kid) hlo).mono fun e w' ⟨⟨v, he, hv⟩, hb⟩ => ⟨by
    have h3 := hkr (lo, hi, top) (by rw [← hs, ho])
    unfold moreC RightIn at h3
    simp only at h3
    rw [← hdL] at h3
    rw [he, hv.2 h3], hb⟩
  clear hsz hH h h' hok hok' hyes hp hl hf hk hkd hlf hkr hs e1 hlo
  obtain ⟨⟨l3, K3, P3, B3_, Q3⟩, ⟨l4, K4, P4, B4, Q4⟩, n⟩ := H
  obtain ⟨lv, K, P, B, Q⟩ := p
  obtain ⟨lv2, K2, P2, B2, Q2⟩ := k
  obtain ⟨kA, kc, pA, pc, bA, bc, qA, qc⟩ := a
  obtain ⟨kA2, kc2, pA2, pc2, bA2, bc2, qA2, qc2⟩ := b
  unfold ndCs at *
  simp only at *
  generalize K.length = kn at *
  generalize P.length = pn at *
  generalize B.length = bn at *
  generalize Q.length = qn at *
  generalize K2.length = kn2 at *
  generalize P2.length = pn2 at *
  generalize B2.length = bn2 at *
  generalize Q2.length = qn2 at *
  generalize K3.length = k3n at *
  generalize P3.length = p3n at *
  generalize B3_.length = b3n at *
  generalize Q3.length = q3n at *
  generalize K4.length = k4n at *
  generalize P4.length = p4n at *
  generalize B4.length = b4n at *
  generalize Q4.length = q4n at *
  obtain ⟨hc1, hc2, hc3, hc4, hc5⟩ := hct
  obtain ⟨s1, hs1⟩ : ∃ s, s = (bn2 : Int) + n := ⟨_, rfl⟩
  obtain ⟨s2, hs2⟩ : ∃ s, s = (qn2 : Int) + n := ⟨_, rfl⟩
  obtain ⟨s3, hs3⟩ : ∃ s, s = (qn2 : Int) - n := ⟨_, rfl⟩
  obtain ⟨M, hM⟩ : ∃ M, M = max 0 most := ⟨_, rfl⟩
  have HW1 : Hid (IntKind.i64.wrap ((bn : Int) - (b3n : Int)) = (n : Int)) := by unfold Hid; rw [IntKind.wrap_i64]; omega
  have HW2 : Hid (IntKind.i64.wrap ((bn2 : Int) + (n : Int)) = s1) := by unfold Hid; rw [IntKind.wrap_i64]; omega
  have HW3 : Hid (IntKind.i64.wrap ((qn2 : Int) + (n : Int)) = s2) := by unfold Hid; rw [IntKind.wrap_i64]; omega
  have HW4 : Hid (IntKind.i64.wrap ((qn2 : Int) - (n : Int)) = s3) := by unfold Hid; rw [IntKind.wrap_i64]; omega
  have HW5 : Hid (IntKind.i64.wrap (cL + (n : Int)) = dL) := by unfold Hid; rw [IntKind.wrap_i64]; omega
  have HMX : Hid ((if most > 0 then most else 0) = M) := by unfold Hid; split <;> omega
  have HL1 : Hid ((b4n : Int) ≤ s1) := by unfold Hid; omega
  have HL2 : Hid ((q4n : Int) ≤ s2) := by unfold Hid; omega
  have HL3 : Hid (s3 ≤ (q4n : Int)) := by unfold Hid; omega
  have HL4 : Hid ((n : Int) ≤ M) := by unfold Hid; omega
  clear hc1 hc2 hc3 hc4 hc5 hs1 hs2 hs3 hM hb1 hb2 hb3 hcl hdL
  go_enter Try.func4, Try.ntmps4
  go_upto_region 1 with fail
  have HB := Lib.hid (B3.new W (.cells #[.int .i64 cB, .int .i64 cY, .int .i64 cF, .int .i64 cN, .int .i64 cU, .int .i64 cL, .int .i64 cKy, .int .i64 cV] 23) (.cells #[.int .i64 lv, .slice kA kn kc, .slice pA pn pc, .slice bA bn bc, .slice qA qn qc] 29) (.cells #[.int .i64 lv2, .slice kA2 kn2 kc2, .slice pA2 pn2 pc2, .slice bA2 bn2 bc2, .slice qA2 qn2 qc2] 29))
  generalize ((W.alloc (.cells #[.int .i64 cB, .int .i64 cY, .int .i64 cF, .int .i64 cN, .int .i64 cU, .int .i64 cL, .int .i64 cKy, .int .i64 cV] 23)).alloc (.cells #[.int .i64 lv, .slice kA kn kc, .slice pA pn pc, .slice bA bn bc, .slice qA qn qc] 29)).alloc (.cells #[.int .i64 lv2, .slice kA2 kn2 kc2, .slice pA2 pn2 pc2, .slice bA2 bn2 bc2, .slice qA2 qn2 qc2] 29) = w1 at *
  obtain ⟨g, hg⟩ : ∃ g, g = W.heap.size := ⟨_, rfl⟩
  rw [← hg] at HB
  simp only [← hg]
  clear hg
  obtain ⟨g0, g1, g2, g3, g4, g5, g6, g7⟩ := box8 HB.out.x
  obtain ⟨e0, e1, e2, e3, e4⟩ := box5 HB.out.y
  obtain ⟨d0, d1, d2, d3, d4⟩ := box5 HB.out.z
  go_upto_region 3 with (go_at_call 5; refine (cR _ HB.out.below).out.mono ?_; rintro e w2 ⟨rfl, hb⟩; replace HB := Lib.hid (HB.out.kept hb); clear hb; clear g0 g1 g2 g3 g4 g5 g6 g7 e0 e1 e2 e3 e4 d0 d1 d2 d3 d4; obtain ⟨g0, g1, g2, g3, g4, g5, g6, g7⟩ := box8 HB.out.x; obtain ⟨e0, e1, e2, e3, e4⟩ := box5 HB.out.y; obtain ⟨d0, d1, d2, d3, d4⟩ := box5 HB.out.z)
  go_upto_region 4 with (go_at_call 7; refine (cH _ HB.out.below).out.mono ?_; rintro e w3 ⟨⟨z1, z2, rfl, hz1, hz2⟩, hb⟩; have HZ1 := Lib.hid hz1; have HZ2 := Lib.hid hz2; replace HB := Lib.hid (HB.out.kept hb); clear hz1 hz2 hb cH cR; clear g0 g1 g2 g3 g4 g5 g6 g7 e0 e1 e2 e3 e4 d0 d1 d2 d3 d4)
  have h2n := two_new w3 (.cells #[.int .i64 l3, .slice z1.kA k3n z1.kc, .slice z1.pA p3n z1.pc, .slice z1.bA b3n z1.bc, .slice z1.qA q3n z1.qc] 29) (.cells #[.int .i64 l4, .slice z2.kA k4n z2.kc, .slice z2.pA p4n z2.pc, .slice z2.bA b4n z2.bc, .slice z2.qA q4n z2.qc] 29)
  generalize (w3.alloc (.cells #[.int .i64 l3, .slice z1.kA k3n z1.kc, .slice z1.pA p3n z1.pc, .slice z1.bA b3n z1.bc, .slice z1.qA q3n z1.qc] 29)).alloc (.cells #[.int .i64 l4, .slice z2.kA k4n z2.kc, .slice z2.pA p4n z2.pc, .slice z2.bA b4n z2.bc, .slice z2.qA q4n z2.qc] 29) = w4 at *
  obtain ⟨hm1, hm2, hbl⟩ := h2n
  obtain ⟨qw4, hq⟩ : ∃ q, q = w3.heap.size := ⟨_, rfl⟩
  simp only [← hq] at hm1 hm2 ⊢
  clear hq
  have HA := Lib.hid hm1
  have HC := Lib.hid hm2
  replace HB := Lib.hid (HB.out.kept hbl)
  replace HZ1 := Lib.hid (HZ1.out.kept hbl)
  replace HZ2 := Lib.hid (HZ2.out.kept hbl)
  clear hm1 hm2 hbl
  obtain ⟨g0, g1, g2, g3, g4, g5, g6, g7⟩ := box8 HB.out.x
  obtain ⟨e0, e1, e2, e3, e4⟩ := box5 HB.out.y
  obtain ⟨d0, d1, d2, d3, d4⟩ := box5 HB.out.z
  obtain ⟨u0, u1, u2, u3, u4⟩ := box5 HA.out
  obtain ⟨v0, v1, v2, v3, v4⟩ := box5 HC.out
  have hw1 := HW1.out
  have hw2 := HW2.out
  have hw3 := HW3.out
  have hw4 := HW4.out
  have hmx := HMX.out
  have hl1 := HL1.out
  have hl2 := HL2.out
  have hl3 := HL3.out
  have hl4 := HL4.out
  have hn0 : (0 : Int) ≤ (n : Int) := Int.natCast_nonneg n
  go_upto_region 6 with fail
  clear hw1 hw2 hw3 hw4 hmx hl1 hl2 hl3 hl4 hn0 HW1 HW2 HW3 HW4 HMX HL1 HL2 HL3 HL4
  replace cR1 := fun w h => cR1 w z1 h
  replace cR2 := fun ho w h => cR2 ho w z2 h
  go_upto_region 7 with (go_at_call 10; refine (cS _ HB.out.below).out.mono ?_; rintro e w5 ⟨rfl, hb⟩; replace HB := Lib.hid (HB.out.kept hb); replace HZ1 := Lib.hid (HZ1.out.kept hb); replace HZ2 := Lib.hid (HZ2.out.kept hb); replace HA := Lib.hid (kept3 HA.out hb); replace HC := Lib.hid (kept3 HC.out hb); clear hb cS u0 u1 u2 u3 u4 v0 v1 v2 v3 v4; clear g0 g1 g2 g3 g4 g5 g6 g7 e0 e1 e2 e3 e4 d0 d1 d2 d3 d4)
  have hm := heap_alloc_new w5 (.cells #[.string lo, .string hi, .bool top] 37)
  have hbl : Below w5.heap.size w5 (w5.alloc (.cells #[.string lo, .string hi, .bool top] 37)) := (Below.refl _ _).alloc (Nat.le_refl _) _
  generalize w5.alloc (.cells #[.string lo, .string hi, .bool top] 37) = w6 at *
  obtain ⟨qs, hq⟩ : ∃ q, q = w5.heap.size := ⟨_, rfl⟩
  simp only [← hq] at hm ⊢
  clear hq
  have HS := Lib.hid hm
  replace HB := Lib.hid (HB.out.kept hbl)
  replace HZ1 := Lib.hid (HZ1.out.kept hbl)
  replace HZ2 := Lib.hid (HZ2.out.kept hbl)
  replace HA := Lib.hid (kept3 HA.out hbl)
  replace HC := Lib.hid (kept3 HC.out hbl)
  clear hm hbl
  obtain ⟨g0, g1, g2, g3, g4, g5, g6, g7⟩ := box8 HB.out.x
  go_upto_region 8 with fail
  have hm := heap_alloc_new w6 (.cells #[.int .i64 cB, .int .i64 cY, .int .i64 cF, .int .i64 cN, .int .i64 cU, .int .i64 cL, .int .i64 cKy, .int .i64 cV] 23)
  have hbl : Below w6.heap.size w6 (w6.alloc (.cells #[.int .i64 cB, .int .i64 cY, .int .i64 cF, .int .i64 cN, .int .i64 cU, .int .i64 cL, .int .i64 cKy, .int .i64 cV] 23)) := (Below.refl _ _).alloc (Nat.le_refl _) _
  have HQ6 : Hid (∃ q, q = w6.heap.size) := ⟨_, rfl⟩
  generalize w6.alloc (.cells #[.int .i64 cB, .int .i64 cY, .int .i64 cF, .int .i64 cN, .int .i64 cU, .int .i64 cL, .int .i64 cKy, .int .i64 cV] 23) = w7 at *
  obtain ⟨qd, hq⟩ : ∃ q, q = w6.heap.size := ⟨_, rfl⟩
  have hqd : w6.heap.size ≤ qd := Nat.le_of_eq hq.symm
  simp only [← hq] at hm ⊢
  clear hq HQ6 g0 g1 g2 g3 g4 g5 g6 g7
  obtain ⟨g0, g1, g2, g3, g4, g5, g6, g7⟩ := box8 (HB.out.kept hbl).x
  have fd : w7.frozen? ⟨qd, 5, none⟩ = false := free5 hm 5
  obtain ⟨k0, k1, k2, k3, k4, k5, k6, k7⟩ := box8 hm
  have hw5 := HW5.out
  have hm8 : (w7.setCell ⟨qd, 5, none⟩ (.int .i64 dL)).heap[qd]? = some (.cells #[.int .i64 cB, .int .i64 cY, .int .i64 cF, .int .i64 cN, .int .i64 cU, .int .i64 dL, .int .i64 cKy, .int .i64 cV] 23 (0, 0)) := by simp [World.setCell, Array.getElem?_modify, hm]
  have HD := Lib.hid hm8
  replace hbl := hbl.setCell (p := ⟨qd, 5, none⟩) hqd (.int .i64 dL)
  replace HB := Lib.hid (HB.out.kept hbl)
  replace HZ1 := Lib.hid (HZ1.out.kept hbl)
  replace HZ2 := Lib.hid (HZ2.out.kept hbl)
  replace HA := Lib.hid (kept3 HA.out hbl)
  replace HC := Lib.hid (kept3 HC.out hbl)
  replace HS := Lib.hid (kept3 HS.out hbl)
  clear hm hm8 hbl hqd HW5
  go_upto_region 9 with fail
  clear g0 g1 g2 g3 g4 g5 g6 g7 fd k0 k1 k2 k3 k4 k5 k6 k7 hw5
  generalize w7.setCell ⟨qd, 5, none⟩ (.int .i64 dL) = w8 at *
  obtain ⟨g0, g1, g2, g3, g4, g5, g6, g7⟩ := box8 HB.out.x
  obtain ⟨u0, u1, u2, u3, u4⟩ := box5 HA.out
  obtain ⟨v0, v1, v2, v3, v4⟩ := box5 HC.out
  obtain ⟨s0, s1, s2⟩ := box3 HS.out
  obtain ⟨k0, k1, k2, k3, k4, k5, k6, k7⟩ := box8 HD.out
  cases ok with
  | false =>
    clear cR2
    go_wp2_with (first
      | (go_at_call 11; refine (cR1 _ HZ1.out).out.mono ?_; rintro e w9 ⟨rfl, hb⟩; replace HB := Lib.hid (HB.out.kept hb); clear hb cR1)
      | (go_at_call 6; refine (cA _).out.mono ?_; rintro e w9 ⟨rfl, hb⟩; have HF := Lib.hid (HB.out.kept hb).below; clear hb))
    go_ret
    exact ⟨rfl, HF.out⟩
  | true =>
    replace cR2 := cR2 rfl
    go_wp2_with (first
      | (go_at_call_of 11 (Value.agg #[.int .i64 cB, .int .i64 cY, .int .i64 cF, .int .i64 cN, .int .i64 cU, .int .i64 cL, .int .i64 cKy, .int .i64 cV]); refine (cR1 _ HZ1.out).out.mono ?_; rintro e w9 ⟨rfl, hb⟩; replace HB := Lib.hid (HB.out.kept hb); replace HZ2 := Lib.hid (HZ2.out.kept hb); replace HC := Lib.hid (kept3 HC.out hb); replace HS := Lib.hid (kept3 HS.out hb); replace HD := Lib.hid (kept3 HD.out hb); clear hb cR1 g0 g1 g2 g3 g4 g5 g6 g7 u0 u1 u2 u3 u4 v0 v1 v2 v3 v4 s0 s1 s2 k0 k1 k2 k3 k4 k5 k6 k7; obtain ⟨v0, v1, v2, v3, v4⟩ := box5 HC.out; obtain ⟨s0, s1, s2⟩ := box3 HS.out; obtain ⟨k0, k1, k2, k3, k4, k5, k6, k7⟩ := box8 HD.out)
      | (go_at_call 11; refine (cR2 _ HZ2.out).out.mono ?_; rintro e w10 ⟨rfl, hb⟩; replace HB := Lib.hid (HB.out.kept hb); clear hb cR2)
      | (go_at_call 6; refine (cA _).out.mono ?_; rintro e w9 ⟨rfl, hb⟩; have HF := Lib.hid (HB.out.kept hb).below; clear hb))
    go_ret
    exact ⟨rfl, HF.out⟩
theorem PourKeeps_walk (cB cY cF cN cU cL cKy cV : Int) (p k : Nd) (a b : At) (i most : Int) (W : World) (h : NdIn W p a) (h' : NdIn W k b) (hok : NdOk p) (hok' : NdOk k) : Calls Try.prog 4 #[.agg #[.int .i64 cB, .int .i64 cY, .int .i64 cF, .int .i64 cN, .int .i64 cU, .int .i64 cL, .int .i64 cKy, .int .i64 cV], .agg (ndCs p a), .int .i64 i, .agg (ndCs k b), .int .i64 most] W fun e w' => e = .returned (.bool true) ∧ Below W.heap.size W w' := by
  by_cases hc : OkP ⟨cB, cY, cF, cN, cU, cL, cKy, cV⟩ p i k
  · exact PourKeeps_yes cB cY cF cN cU cL cKy cV p k a b i most W h h' hok hok' hc
  · exact PourKeeps_no cB cY cF cN cU cL cKy cV p k a b i most W h h' hok hok' hc
theorem PourKeeps_gen (cB cY cF cN cU cL cKy cV : Int) (p : Nd) (a : At) (i : Int) (k : Nd) (b : At) (most : Int) (W : World) (h : NdIn W p a) (hok : NdOk p) (h' : NdIn W k b) (hok' : NdOk k) : Calls Try.prog 4 #[.agg #[.int .i64 cB, .int .i64 cY, .int .i64 cF, .int .i64 cN, .int .i64 cU, .int .i64 cL, .int .i64 cKy, .int .i64 cV], .agg (ndCs p a), .int .i64 i, .agg (ndCs k b), .int .i64 most] W fun e w' => e = .returned (.bool true) ∧ Below W.heap.size W w' := PourKeeps_walk cB cY cF cN cU cL cKy cV p k a b i most W h h' hok hok'
end No
end Go.Proofs.Ytlabbmfiecbigaa

namespace Go.Proofs.Ytlabbmfiecbigaa.PourKeeps
open Go.ChangeShapes Go.WideShapes Go.ChangeAt Go.RowKit
open Go.ChangeMaps (open_string shut_string)

theorem own : ownKnob Try.prog.godebug = none := by kernel_rfl

set_option maxRecDepth 100000 in
theorem contract (H : Type) (enc : TypeId × Value → H) (W : World) (base : Nat) (args : Array Value) (ds gs : List (DataW H)) (before : List MemPlace)
    (hval : ∀ (j : Nat) t v, Try.f4.params[j]? = some t → args[j]? = some v → Value.okWide Try.prog W .any base t v)
    (hW : DataW.Whole enc Try.prog Try.f4.params.toList Rows.pourKeepsSpec.vars false W args.toList ds gs before)
    (hsz : (DataW.weightsEach Try.prog (Try.f4.params.toList ++ Rows.pourKeepsSpec.plain.varTypes Try.prog) (ds ++ gs)).all (· ≤ reachBytes) = true) :
    Calls Try.prog 4 args W fun e W' => ∃ v, e = .returned v ∧ Rows.pourKeepsSpec.post enc Try.prog Try.f4 false true false false W args v W' := by
  have hW' := hW
  obtain ⟨p, q, hA0, hV, rfl, hfz, hnd⟩ := hW
  have hA : DataW.TrodAll enc Try.prog W 0 (fun _ => true) true Try.f4.params.toList args.toList ds p := hA0
  rw [Try.params4] at hA hval
  obtain ⟨v0, vs0, d0, ds0, p0, q0, hargs0, rfl, rfl, h0, r0⟩ := trodAll_cons hA
  obtain ⟨v1, vs1, d1, ds1, p1, q1, hargs1, rfl, rfl, h1, r1⟩ := trodAll_cons r0
  obtain ⟨v2, vs2, d2, ds2, p2, q2, hargs2, rfl, rfl, h2, r2⟩ := trodAll_cons r1
  obtain ⟨v3, vs3, d3, ds3, p3, q3, hargs3, rfl, rfl, h3, r3⟩ := trodAll_cons r2
  obtain ⟨v4, vs4, d4, ds4, p4, q4, hargs4, rfl, rfl, h4, r4⟩ := trodAll_cons r3
  obtain ⟨rfl, rfl, rfl⟩ := trodAll_nil r4
  obtain rfl : args = #[v0, v1, v2, v3, v4] := by cases args; simp_all
  obtain ⟨rfl, rfl⟩ := trodVars_none hV
  obtain ⟨cB, cY, cF, cN, cU, cL, cKy, cV, rfl⟩ := Cf.open_cfg (hval 0 23 v0 rfl rfl) h0
  have zp : ∀ n ∈ d1.weights Try.prog 29, n ≤ reachBytes := fun n hn => by
    have := List.all_eq_true.1 hsz n (DataW.weights_mem_each (j := 1) (by rw [Try.params4]; rfl) rfl n hn)
    simpa using this
  obtain ⟨p, Ap, rfl, hp, bp⟩ := No.open_node (hval 1 29 v1 rfl rfl) h1 zp
  obtain ⟨i, rfl, rfl, rfl, mi⟩ := open_int Try.underlying3 (hval 2 3 v2 rfl rfl) h2
  have zk : ∀ n ∈ d3.weights Try.prog 29, n ≤ reachBytes := fun n hn => by
    have := List.all_eq_true.1 hsz n (DataW.weights_mem_each (j := 3) (by rw [Try.params4]; rfl) rfl n hn)
    simpa using this
  obtain ⟨k, Ak, rfl, hk, bk⟩ := No.open_node (hval 3 29 v3 rfl rfl) h3 zk
  obtain ⟨most, rfl, rfl, rfl, mmost⟩ := open_int Try.underlying3 (hval 4 3 v4 rfl rfl) h4
  clear hA0
  simp only [List.append_nil] at hW'
  refine (No.PourKeeps_gen cB cY cF cN cU cL cKy cV p Ap i k Ak most W hp bp hk bk).mono fun e W' ⟨he, hg⟩ => ?_
  subst he
  exact ⟨_, rfl, Post.law_post (by kernel_rfl) (by kernel_rfl) hW' rfl rfl rfl Try.underlying4 hg⟩

set_option maxRecDepth 100000 in
theorem lifted (os : Os) (started : os.Started) (H : Type) (enc : TypeId × Value → H) :
    ReturnsInHanded {} Try.checked os 4 .any (Rows.pourKeepsSpec.pre6 enc Try.prog Try.f4 Rows.pourKeepsRow.domain false) (Rows.pourKeepsSpec.post enc Try.prog Try.f4 false true false false) := by
  refine returnsInHanded_of_change_sized (C := Try.checked) own started (by kernel_rfl) Try.func4
    (ChangeSpec.witness6 (enc := enc) (C := Try.checked) false ⟨#[], #[.agg #[.int .i64 0, .int .i64 0, .int .i64 0, .int .i64 0, .int .i64 0, .int .i64 0, .int .i64 0, .int .i64 0], .agg #[.int .i64 0, .slice none 0 0, .slice none 0 0, .slice none 0 0, .slice none 0 0], .int .i64 0, .agg #[.int .i64 0, .slice none 0 0, .slice none 0 0, .slice none 0 0, .slice none 0 0], .int .i64 0], []⟩ 8 (by kernel_rfl) (by kernel_rfl) (by kernel_rfl) (by kernel_rfl)) ?_
  intro W base args ds gs before hval hW _ hsz _
  exact contract H enc W base args ds gs before hval hW hsz

theorem holds : Rows.PourKeepsSaid :=
  OpenClaim.holds_of_wide 4 Try.f4 rfl rfl rfl rfl rfl rfl rfl ⟨rfl, rfl, rfl, rfl, rfl⟩ rfl rfl rfl rfl rfl (by kernel_rfl) Try.func4 (by kernel_rfl)
    (of_decide_eq_true (by kernel_rfl)) (by unfold Func.isWrapper; first | (rw [if_pos (by decide +kernel)]; kernel_rfl) | (rw [if_neg (by decide +kernel)]; exact ⟨rfl, rfl⟩))
    (fun os started H enc _ => lifted os started H enc)
end Go.Proofs.Ytlabbmfiecbigaa.PourKeeps
