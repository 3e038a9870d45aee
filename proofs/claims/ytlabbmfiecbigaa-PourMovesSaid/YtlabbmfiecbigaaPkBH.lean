/-
  PourLaw0, PourLaw1. Put together by pack.py.
-/
import Derived.Test.YtlabbmfiecbigaaPqPourLaw

namespace Go.Proofs.Ytlabbmfiecbigaa
open Go.RowKit
namespace No
open Mem Lx Bu Lf Fa
variable {c : Cfg} {p k : Nd} {i most : Int}
theorem pour_sz (hp : RightN c ⟨#[]⟩ ⟨#[]⟩ true p) (hl : 1 ≤ p.lv) (fp : Fit p) (fk : Fit k) (hk : ∀ s, kidS p i = (s, true) → RightIn c s k) : Sz (pourN c p i k most).1 ∧ Sz (pourN c p i k most).2.1 := by
  have sp := fp.sz
  have sk := fk.sz
  by_cases hn : NoPour p i k
  · rw [pourN_no hn]
    exact ⟨sp, sk⟩
  rw [pourN_yes hn]
  have hri := rise_iff.1 (hp.inner hl).rise
  have h1 := takeD_sub (wayIs p.piv i) (roomN c k most) p.buf
  have hRi := (hri.taken (wayIs p.piv i) (roomN c k most)).1
  change (goN c p i k most).1.Sublist p.buf ∧ (goN c p i k most).2.Sublist p.buf at h1
  change Ri (goN c p i k most).1 at hRi
  have h2 := h1.1.length_le
  have h3 := h1.2.length_le
  have f1 := fp.buf
  have f2 := fk.buf
  have f3 := fk.prs
  refine ⟨⟨sp.piv, fun m hm => sp.buf m (h1.2.subset hm), sp.prs, sp.kl, sp.pl, by simp only; omega, sp.ql⟩, ?_⟩
  unfold intoN
  split
  · have h4 := applyP_len (goN c p i k most).1 k.prs
    exact ⟨sk.piv, sk.buf, key_apply sk.prs fun m hm => sp.buf m (h1.1.subset hm), sk.kl, sk.pl, sk.bl, by simp only; omega⟩
  · rename_i e
    obtain ⟨hi, -⟩ := pour_yes hp hl hn
    obtain ⟨s, hs⟩ := kid_some (hp.inner hl).right hi
    have h4 := (Ri.merge (a := (goN c p i k most).1) (rise_iff.1 ((hk s hs).2 e).2.rise)).2
    refine ⟨sk.piv, fun m hm => ?_, sk.prs, sk.kl, sk.pl, by simp only; omega, sk.ql⟩
    rcases (mem_mergeD hRi).1 hm with hm | hm
    · exact sp.buf m (h1.1.subset hm)
    · exact sk.buf m hm.1
theorem Right_buf (h : Cf.Right c.blocks c.bytes c.frames c.fan c.buffer c.leaf c.key c.val) : (0 ≤ c.buffer ∧ c.buffer ≤ 1000000) ∧ 0 ≤ c.leaf ∧ c.leaf ≤ 1000000 := by
  unfold Cf.Right Cf.Shape at h
  omega
/-- the code's Pour of what right lets in -/
theorem Pour_ok {W : World} {a b : At} (ha : NdIn W p a) (hb : NdIn W k b) (most : Int) (h : OkP c p i k) : Calls Try.prog 7 #[.agg (cfCs c), .agg (ndCs p a), .int .i64 i, .agg (ndCs k b), .int .i64 most] W fun e w' => (∃ v, e = .returned v ∧ EvPour (pourN c p i k most) v w') ∧ Below W.heap.size W w' := by
  obtain ⟨fp, fk, hc, hl, hp, hk⟩ := h
  have hin := hp.inner hl
  refine Pour_any c ha hb fp fk i most ⟨hl, hin.lv⟩ (Right_buf hc).1 hin.fewer.symm hin.right (rise_iff.1 hin.rise) fun hn => ?_
  obtain ⟨hi, -⟩ := pour_yes hp hl hn
  obtain ⟨s, hs⟩ := kid_some hin.right hi
  have h1 := hk s hs
  exact ⟨fun e => prise_iff.1 (h1.1 e).rise, fun e => rise_iff.1 (h1.2 e).2.rise⟩
theorem RPour_ok {W : World} {a b : At} (ha : NdIn W p a) (hb : NdIn W k b) (most : Int) (h : OkP c p i k) : Calls Try.prog 8 #[.agg (cfCs c), .agg (ndCs p a), .int .i64 i, .agg (ndCs k b), .int .i64 most] W fun e w' => (∃ v, e = .returned v ∧ EvPour (pourN c p i k most) v w') ∧ Below W.heap.size W w' :=
  RPour_any c ha hb h.1.sz h.2.1.sz i most h.2.2.2.2.1 h.2.2.2.1 h.2.2.2.2.2 (Right_buf h.2.2.1).1
theorem pour_kids : (pourN c p i k most).1.kids = p.kids ∧ (pourN c p i k most).2.1.kids = k.kids ∧ (pourN c p i k most).1.piv = p.piv := by
  by_cases hn : NoPour p i k
  · rw [pourN_no hn]
    exact ⟨rfl, rfl, rfl⟩
  · rw [pourN_yes hn]
    refine ⟨rfl, ?_, rfl⟩
    simp only
    unfold intoN
    split <;> rfl
end No
end Go.Proofs.Ytlabbmfiecbigaa

namespace Go.Proofs.Ytlabbmfiecbigaa
open Go.RowKit
namespace No
open Mem Lx Bu Lf Fa
set_option maxRecDepth 100000 in
set_option maxHeartbeats 16000000 in
theorem PourMoves_no (cB cY cF cN cU cL cKy cV : Int) (p k : Nd) (a b : At) (i most : Int) (W : World) (h : NdIn W p a) (h' : NdIn W k b) (hok : NdOk p) (hok' : NdOk k) (hno : ¬ OkP ⟨cB, cY, cF, cN, cU, cL, cKy, cV⟩ p i k) : Calls Try.prog 3 #[.agg #[.int .i64 cB, .int .i64 cY, .int .i64 cF, .int .i64 cN, .int .i64 cU, .int .i64 cL, .int .i64 cKy, .int .i64 cV], .agg (ndCs p a), .int .i64 i, .agg (ndCs k b), .int .i64 most] W fun e w' => e = .returned (.bool true) ∧ Below W.heap.size W w' := by
  have cA := fun w => Lib.hid (PAwake_any w)
  have cR : ∀ w, Below W.heap.size W w → Hid (Calls Try.prog 5 #[.agg #[.int .i64 cB, .int .i64 cY, .int .i64 cF, .int .i64 cN, .int .i64 cU, .int .i64 cL, .int .i64 cKy, .int .i64 cV], .agg (ndCs p a), .int .i64 i, .agg (ndCs k b)] w fun e w' => e = .returned (.bool false) ∧ Below w.heap.size w w') := fun w hb => PRight_any ⟨cB, cY, cF, cN, cU, cL, cKy, cV⟩ i (h.kept hb) (h'.kept hb) hok hok' false ⟨fun e => (by cases e), fun e => absurd e hno⟩
  clear h h' hok hok' hno
  obtain ⟨lv, K, P, B, Q⟩ := p
  obtain ⟨lv2, K2, P2, B2, Q2⟩ := k
  obtain ⟨kA, kc, pA, pc, bA, bc, qA, qc⟩ := a
  obtain ⟨kA2, kc2, pA2, pc2, bA2, bc2, qA2, qc2⟩ := b
  unfold ndCs at *
  simp only at *
  generalize K.length = kn at *
  generalize P.length = pn at *
  generalize B.length = bn at *
  generalize Q.length = qn at *
  generalize K2.length = kn2 at *
  generalize P2.length = pn2 at *
  generalize B2.length = bn2 at *
  generalize Q2.length = qn2 at *
  go_enter Try.func3, Try.ntmps3
  go_upto_region 1 with fail
  have HB := Lib.hid (B3.new W (.cells #[.int .i64 cB, .int .i64 cY, .int .i64 cF, .int .i64 cN, .int .i64 cU, .int .i64 cL, .int .i64 cKy, .int .i64 cV] 23) (.cells #[.int .i64 lv, .slice kA kn kc, .slice pA pn pc, .slice bA bn bc, .slice qA qn qc] 29) (.cells #[.int .i64 lv2, .slice kA2 kn2 kc2, .slice pA2 pn2 pc2, .slice bA2 bn2 bc2, .slice qA2 qn2 qc2] 29))
  generalize ((W.alloc (.cells #[.int .i64 cB, .int .i64 cY, .int .i64 cF, .int .i64 cN, .int .i64 cU, .int .i64 cL, .int .i64 cKy, .int .i64 cV] 23)).alloc (.cells #[.int .i64 lv, .slice kA kn kc, .slice pA pn pc, .slice bA bn bc, .slice qA qn qc] 29)).alloc (.cells #[.int .i64 lv2, .slice kA2 kn2 kc2, .slice pA2 pn2 pc2, .slice bA2 bn2 bc2, .slice qA2 qn2 qc2] 29) = w1 at *
  obtain ⟨g, hg⟩ : ∃ g, g = W.heap.size := ⟨_, rfl⟩
  rw [← hg] at HB
  simp only [← hg]
  clear hg
  obtain ⟨g0, g1, g2, g3, g4, g5, g6, g7⟩ := box8 HB.out.x
  obtain ⟨e0, e1, e2, e3, e4⟩ := box5 HB.out.y
  obtain ⟨d0, d1, d2, d3, d4⟩ := box5 HB.out.z
  go_wp2_with (first | (go_at_call 5; refine (cR _ HB.out.below).out.mono ?_; rintro e w2 ⟨rfl, hb⟩; replace HB := Lib.hid (HB.out.kept hb); clear hb; clear g0 g1 g2 g3 g4 g5 g6 g7 e0 e1 e2 e3 e4 d0 d1 d2 d3 d4; obtain ⟨g0, g1, g2, g3, g4, g5, g6, g7⟩ := box8 HB.out.x; obtain ⟨e0, e1, e2, e3, e4⟩ := box5 HB.out.y; obtain ⟨d0, d1, d2, d3, d4⟩ := box5 HB.out.z) | (go_at_call 6; refine (cA _).out.mono ?_; rintro e w9 ⟨rfl, hb⟩; have HF := Lib.hid (HB.out.kept hb).below; clear hb))
  go_ret
  exact ⟨rfl, HF.out⟩
set_option maxRecDepth 100000 in
set_option maxHeartbeats 16000000 in
theorem PourMoves_yes (cB cY cF cN cU cL cKy cV : Int) (p k : Nd) (a b : At) (i most : Int) (W : World) (h : NdIn W p a) (h' : NdIn W k b) (hok : NdOk p) (hok' : NdOk k) (hyes : OkP ⟨cB, cY, cF, cN, cU, cL, cKy, cV⟩ p i k) : Calls Try.prog 3 #[.agg #[.int .i64 cB, .int .i64 cY, .int .i64 cF, .int .i64 cN, .int .i64 cU, .int .i64 cL, .int .i64 cKy, .int .i64 cV], .agg (ndCs p a), .int .i64 i, .agg (ndCs k b), .int .i64 most] W fun e w' => e = .returned (.bool true) ∧ Below W.heap.size W w' := by
  have cA := fun w => Lib.hid (PAwake_any w)
  have cR : ∀ w, Below W.heap.size W w → Hid (Calls Try.prog 5 #[.agg #[.int .i64 cB, .int .i64 cY, .int .i64 cF, .int .i64 cN, .int .i64 cU, .int .i64 cL, .int .i64 cKy, .int .i64 cV], .agg (ndCs p a), .int .i64 i, .agg (ndCs k b)] w fun e w' => e = .returned (.bool true) ∧ Below w.heap.size w w') := fun w hb => PRight_any ⟨cB, cY, cF, cN, cU, cL, cKy, cV⟩ i (h.kept hb) (h'.kept hb) hok hok' true ⟨fun _ => hyes, fun _ => rfl⟩
  obtain ⟨H, hH⟩ : ∃ H, H = pourN ⟨cB, cY, cF, cN, cU, cL, cKy, cV⟩ p i k most := ⟨_, rfl⟩
  have hsz := pour_sz (most := most) hyes.2.2.2.2.1 hyes.2.2.2.1 hyes.1 hyes.2.1 hyes.2.2.2.2.2
  rw [← hH] at hsz
  have cH : ∀ w, Below W.heap.size W w → Hid (Calls Try.prog 7 #[.agg #[.int .i64 cB, .int .i64 cY, .int .i64 cF, .int .i64 cN, .int .i64 cU, .int .i64 cL, .int .i64 cKy, .int .i64 cV], .agg (ndCs p a), .int .i64 i, .agg (ndCs k b), .int .i64 most] w fun e w' => (∃ z1 z2, e = .returned (.tuple #[.agg (ndCs H.1 z1), .agg (ndCs H.2.1 z2), .int .i64 (H.2.2 : Int)]) ∧ NdIn w' H.1 z1 ∧ NdIn w' H.2.1 z2) ∧ Below w.heap.size w w') := fun w hb => (Pour_ok (h.kept hb) (h'.kept hb) most hyes).mono fun e w' ⟨⟨v, he, hv⟩, hb⟩ => by
    rw [← hH] at hv
    obtain ⟨z1, z2, hv, h1, h2⟩ := hv
    exact ⟨⟨z1, z2, by rw [he, hv], h1, h2⟩, hb⟩
  have cX : ∀ w, Below W.heap.size W w → Hid (Calls Try.prog 8 #[.agg #[.int .i64 cB, .int .i64 cY, .int .i64 cF, .int .i64 cN, .int .i64 cU, .int .i64 cL, .int .i64 cKy, .int .i64 cV], .agg (ndCs p a), .int .i64 i, .agg (ndCs k b), .int .i64 most] w fun e w' => (∃ z1 z2, e = .returned (.tuple #[.agg (ndCs H.1 z1), .agg (ndCs H.2.1 z2), .int .i64 (H.2.2 : Int)]) ∧ NdIn w' H.1 z1 ∧ NdIn w' H.2.1 z2) ∧ Below w.heap.size w w') := fun w hb => (RPour_ok (h.kept hb) (h'.kept hb) most hyes).mono fun e w' ⟨⟨v, he, hv⟩, hb⟩ => by
    rw [← hH] at hv
    obtain ⟨z1, z2, hv, h1, h2⟩ := hv
    exact ⟨⟨z1, z2, by rw [he, hv], h1, h2⟩, hb⟩
  have cS1 : ∀ (w : World) (z z' : At), NdIn w H.1 z → NdIn w H.1 z' → Hid (Calls Try.prog 9 #[.agg (ndCs H.1 z), .agg (ndCs H.1 z')] w fun e w' => e = .returned (.bool true) ∧ Below w.heap.size w w') := fun w z z' h1 h2 => (RSame_any h1 h2 hsz.1 hsz.1).mono fun e w' ⟨⟨v, he, hv⟩, hb⟩ => ⟨by rw [he, hv.2 rfl], hb⟩
  have cS2 : ∀ (w : World) (z z' : At), NdIn w H.2.1 z → NdIn w H.2.1 z' → Hid (Calls Try.prog 9 #[.agg (ndCs H.2.1 z), .agg (ndCs H.2.1 z')] w fun e w' => e = .returned (.bool true) ∧ Below w.heap.size w w') := fun w z z' h1 h2 => (RSame_any h1 h2 hsz.2 hsz.2).mono fun e w' ⟨⟨v, he, hv⟩, hb⟩ => ⟨by rw [he, hv.2 rfl], hb⟩
  clear hsz hH h h' hok hok' hyes
  obtain ⟨⟨l3, K3, P3, B3_, Q3⟩, ⟨l4, K4, P4, B4, Q4⟩, n⟩ := H
  obtain ⟨lv, K, P, B, Q⟩ := p
  obtain ⟨lv2, K2, P2, B2, Q2⟩ := k
  obtain ⟨kA, kc, pA, pc, bA, bc, qA, qc⟩ := a
  obtain ⟨kA2, kc2, pA2, pc2, bA2, bc2, qA2, qc2⟩ := b
  unfold ndCs at *
  simp only at *
  generalize K.length = kn at *
  generalize P.length = pn at *
  generalize B.length = bn at *
  generalize Q.length = qn at *
  generalize K2.length = kn2 at *
  generalize P2.length = pn2 at *
  generalize B2.length = bn2 at *
  generalize Q2.length = qn2 at *
  generalize K3.length = k3n at *
  generalize P3.length = p3n at *
  generalize B3_.length = b3n at *
  generalize Q3.length = q3n at *
  generalize K4.length = k4n at *
  generalize P4.length = p4n at *
  generalize B4.length = b4n at *
  generalize Q4.length = q4n at *
  go_enter Try.func3, Try.ntmps3
  go_upto_region 1 with fail
  have HB := Lib.hid (B3.new W (.cells #[.int .i64 cB, .int .i64 cY, .int .i64 cF, .int .i64 cN, .int .i64 cU, .int .i64 cL, .int .i64 cKy, .int .i64 cV] 23) (.cells #[.int .i64 lv, .slice kA kn kc, .slice pA pn pc, .slice bA bn bc, .slice qA qn qc] 29) (.cells #[.int .i64 lv2, .slice kA2 kn2 kc2, .slice pA2 pn2 pc2, .slice bA2 bn2 bc2, .slice qA2 qn2 qc2] 29))
  generalize ((W.alloc (.cells #[.int .i64 cB, .int .i64 cY, .int .i64 cF, .int .i64 cN, .int .i64 cU, .int .i64 cL, .int .i64 cKy, .int .i64 cV] 23)).alloc (.cells #[.int .i64 lv, .slice kA kn kc, .slice pA pn pc, .slice bA bn bc, .slice qA qn qc] 29)).alloc (.cells #[.int .i64 lv2, .slice kA2 kn2 kc2, .slice pA2 pn2 pc2, .slice bA2 bn2 bc2, .slice qA2 qn2 qc2] 29) = w1 at *
  obtain ⟨g, hg⟩ : ∃ g, g = W.heap.size := ⟨_, rfl⟩
  rw [← hg] at HB
  simp only [← hg]
  clear hg
  obtain ⟨g0, g1, g2, g3, g4, g5, g6, g7⟩ := box8 HB.out.x
  obtain ⟨e0, e1, e2, e3, e4⟩ := box5 HB.out.y
  obtain ⟨d0, d1, d2, d3, d4⟩ := box5 HB.out.z
  go_upto_region 3 with (go_at_call 5; refine (cR _ HB.out.below).out.mono ?_; rintro e w2 ⟨rfl, hb⟩; replace HB := Lib.hid (HB.out.kept hb); clear hb; clear g0 g1 g2 g3 g4 g5 g6 g7 e0 e1 e2 e3 e4 d0 d1 d2 d3 d4; obtain ⟨g0, g1, g2, g3, g4, g5, g6, g7⟩ := box8 HB.out.x; obtain ⟨e0, e1, e2, e3, e4⟩ := box5 HB.out.y; obtain ⟨d0, d1, d2, d3, d4⟩ := box5 HB.out.z)
  go_upto_region 4 with (go_at_call 7; refine (cH _ HB.out.below).out.mono ?_; rintro e w3 ⟨⟨z1, z2, rfl, hz1, hz2⟩, hb⟩; have HZ1 := Lib.hid hz1; have HZ2 := Lib.hid hz2; replace HB := Lib.hid (HB.out.kept hb); clear hz1 hz2 hb cH cR; clear g0 g1 g2 g3 g4 g5 g6 g7 e0 e1 e2 e3 e4 d0 d1 d2 d3 d4)
  have h2n := two_new w3 (.cells #[.int .i64 l3, .slice z1.kA k3n z1.kc, .slice z1.pA p3n z1.pc, .slice z1.bA b3n z1.bc, .slice z1.qA q3n z1.qc] 29) (.cells #[.int .i64 l4, .slice z2.kA k4n z2.kc, .slice z2.pA p4n z2.pc, .slice z2.bA b4n z2.bc, .slice z2.qA q4n z2.qc] 29)
  generalize (w3.alloc (.cells #[.int .i64 l3, .slice z1.kA k3n z1.kc, .slice z1.pA p3n z1.pc, .slice z1.bA b3n z1.bc, .slice z1.qA q3n z1.qc] 29)).alloc (.cells #[.int .i64 l4, .slice z2.kA k4n z2.kc, .slice z2.pA p4n z2.pc, .slice z2.bA b4n z2.bc, .slice z2.qA q4n z2.qc] 29) = w4 at *
  obtain ⟨hm1, hm2, hbl⟩ := h2n
  obtain ⟨qw4, hq⟩ : ∃ q, q = w3.heap.size := ⟨_, rfl⟩
  simp only [← hq] at hm1 hm2 ⊢
  clear hq
  have HA := Lib.hid hm1
  have HC := Lib.hid hm2
  replace HB := Lib.hid (HB.out.kept hbl)
  replace HZ1 := Lib.hid (HZ1.out.kept hbl)
  replace HZ2 := Lib.hid (HZ2.out.kept hbl)
  clear hm1 hm2 hbl
  obtain ⟨g0, g1, g2, g3, g4, g5, g6, g7⟩ := box8 HB.out.x
  obtain ⟨e0, e1, e2, e3, e4⟩ := box5 HB.out.y
  obtain ⟨d0, d1, d2, d3, d4⟩ := box5 HB.out.z
  go_upto_region 5 with (go_at_call 8; refine (cX _ HB.out.below).out.mono ?_; rintro e w5 ⟨⟨z3, z4, rfl, hz3, hz4⟩, hb⟩; have HZ3 := Lib.hid hz3; have HZ4 := Lib.hid hz4; replace HB := Lib.hid (HB.out.kept hb); replace HZ1 := Lib.hid (HZ1.out.kept hb); replace HZ2 := Lib.hid (HZ2.out.kept hb); replace HA := Lib.hid (kept3 HA.out hb); replace HC := Lib.hid (kept3 HC.out hb); clear hz3 hz4 hb cX; clear g0 g1 g2 g3 g4 g5 g6 g7 e0 e1 e2 e3 e4 d0 d1 d2 d3 d4)
  have h2n := two_new w5 (.cells #[.int .i64 l3, .slice z3.kA k3n z3.kc, .slice z3.pA p3n z3.pc, .slice z3.bA b3n z3.bc, .slice z3.qA q3n z3.qc] 29) (.cells #[.int .i64 l4, .slice z4.kA k4n z4.kc, .slice z4.pA p4n z4.pc, .slice z4.bA b4n z4.bc, .slice z4.qA q4n z4.qc] 29)
  generalize (w5.alloc (.cells #[.int .i64 l3, .slice z3.kA k3n z3.kc, .slice z3.pA p3n z3.pc, .slice z3.bA b3n z3.bc, .slice z3.qA q3n z3.qc] 29)).alloc (.cells #[.int .i64 l4, .slice z4.kA k4n z4.kc, .slice z4.pA p4n z4.pc, .slice z4.bA b4n z4.bc, .slice z4.qA q4n z4.qc] 29) = w6 at *
  obtain ⟨hm1, hm2, hbl⟩ := h2n
  obtain ⟨qw6, hq⟩ : ∃ q, q = w5.heap.size := ⟨_, rfl⟩
  simp only [← hq] at hm1 hm2 ⊢
  clear hq
  have HX := Lib.hid hm1
  have HY := Lib.hid hm2
  replace HB := Lib.hid (HB.out.kept hbl)
  replace HZ1 := Lib.hid (HZ1.out.kept hbl)
  replace HZ2 := Lib.hid (HZ2.out.kept hbl)
  replace HA := Lib.hid (kept3 HA.out hbl)
  replace HC := Lib.hid (kept3 HC.out hbl)
  replace HZ3 := Lib.hid (HZ3.out.kept hbl)
  replace HZ4 := Lib.hid (HZ4.out.kept hbl)
  clear hm1 hm2 hbl
  obtain ⟨u0, u1, u2, u3, u4⟩ := box5 HA.out
  obtain ⟨v0, v1, v2, v3, v4⟩ := box5 HC.out
  obtain ⟨x0, x1, x2, x3, x4⟩ := box5 HX.out
  obtain ⟨y0, y1, y2, y3, y4⟩ := box5 HY.out
  replace cS1 := cS1 w6 z1 z3 HZ1.out HZ3.out
  replace cS2 := fun w h2 h4 => cS2 w z2 z4 h2 h4
  clear HZ1 HZ3
  go_wp2_with (first
    | (go_at_call_of 9 (Value.agg #[.int .i64 l3, .slice z1.kA k3n z1.kc, .slice z1.pA p3n z1.pc, .slice z1.bA b3n z1.bc, .slice z1.qA q3n z1.qc]); refine cS1.out.mono ?_; rintro e w7 ⟨rfl, hb⟩; replace HB := Lib.hid (HB.out.kept hb); replace HZ2 := Lib.hid (HZ2.out.kept hb); replace HZ4 := Lib.hid (HZ4.out.kept hb); replace HA := Lib.hid (kept3 HA.out hb); replace HC := Lib.hid (kept3 HC.out hb); replace HX := Lib.hid (kept3 HX.out hb); replace HY := Lib.hid (kept3 HY.out hb); clear hb cS1; clear u0 u1 u2 u3 u4 v0 v1 v2 v3 v4 x0 x1 x2 x3 x4 y0 y1 y2 y3 y4; obtain ⟨u0, u1, u2, u3, u4⟩ := box5 HA.out; obtain ⟨v0, v1, v2, v3, v4⟩ := box5 HC.out; obtain ⟨x0, x1, x2, x3, x4⟩ := box5 HX.out; obtain ⟨y0, y1, y2, y3, y4⟩ := box5 HY.out)
    | (go_at_call 9; refine (cS2 _ HZ2.out HZ4.out).out.mono ?_; rintro e w8 ⟨rfl, hb⟩; replace HB := Lib.hid (HB.out.kept hb); clear hb cS2)
    | (go_at_call 6; refine (cA _).out.mono ?_; rintro e w9 ⟨rfl, hb⟩; have HF := Lib.hid (HB.out.kept hb).below; clear hb))
  go_ret
  exact ⟨rfl, HF.out⟩
theorem PourMoves_walk (cB cY cF cN cU cL cKy cV : Int) (p k : Nd) (a b : At) (i most : Int) (W : World) (h : NdIn W p a) (h' : NdIn W k b) (hok : NdOk p) (hok' : NdOk k) : Calls Try.prog 3 #[.agg #[.int .i64 cB, .int .i64 cY, .int .i64 cF, .int .i64 cN, .int .i64 cU, .int .i64 cL, .int .i64 cKy, .int .i64 cV], .agg (ndCs p a), .int .i64 i, .agg (ndCs k b), .int .i64 most] W fun e w' => e = .returned (.bool true) ∧ Below W.heap.size W w' := by
  by_cases hc : OkP ⟨cB, cY, cF, cN, cU, cL, cKy, cV⟩ p i k
  · exact PourMoves_yes cB cY cF cN cU cL cKy cV p k a b i most W h h' hok hok' hc
  · exact PourMoves_no cB cY cF cN cU cL cKy cV p k a b i most W h h' hok hok' hc
theorem PourMoves_gen (cB cY cF cN cU cL cKy cV : Int) (p : Nd) (a : At) (i : Int) (k : Nd) (b : At) (most : Int) (W : World) (h : NdIn W p a) (hok : NdOk p) (h' : NdIn W k b) (hok' : NdOk k) : Calls Try.prog 3 #[.agg #[.int .i64 cB, .int .i64 cY, .int .i64 cF, .int .i64 cN, .int .i64 cU, .int .i64 cL, .int .i64 cKy, .int .i64 cV], .agg (ndCs p a), .int .i64 i, .agg (ndCs k b), .int .i64 most] W fun e w' => e = .returned (.bool true) ∧ Below W.heap.size W w' := PourMoves_walk cB cY cF cN cU cL cKy cV p k a b i most W h h' hok hok'
end No
end Go.Proofs.Ytlabbmfiecbigaa
