/-
  CleaveC3. Put together by pack.py.
-/
import Derived.Test.YtohnllclkpflaaaPkAI
import Derived.Test.YtohnllclkpflaaaPkAJ
import Derived.Test.YtohnllclkpflaaaPkAK

namespace Go.Proofs.Ytohnllclkpflaaa
open Go.RowKit
namespace No
open Mem Lx Bu Lf Fa
/-- what Split tells -/
def EvSplit (B : Nat) (p : ByteArray) (L : List Mg) (v : Value) (w : World) : Prop := ∃ A1 c1 A2 c2, v = .tuple #[.slice A1 (belowM p L).length c1, .slice A2 (restM p L).length c2] ∧ VK MgK w B A1 c1 (belowM p L) ∧ VK MgK w B A2 c2 (restM p L)
set_option maxRecDepth 100000 in
set_option maxHeartbeats 4000000 in
theorem Split_any {W : World} {A : Option Addr} {c : Nat} {L : List Mg} (h : RC MgK W A c L) (key : ByteArray) (hr : Ri L) (hl : L.length ≤ 1000) : Calls Try.prog 43 #[.slice A L.length c, .string key] W fun e w' => (∃ v, e = .returned v ∧ EvSplit W.heap.size key L v w') ∧ Below W.heap.size W w' := by
  have cS := Lib.hid (place_any (c := c) h.1 key hr (by omega))
  have HH := Lib.hid h
  have hc := h.2
  have HT : Hid (∀ p, Lb L key p → belowM key L = L.take p ∧ restM key L = L.drop p) := fun p hp => below_at hp.lo hp.hi
  unfold EvSplit
  generalize belowM key L = T1 at *
  generalize restM key L = T2 at *
  clear h
  generalize hn : L.length = n at *
  have HN := Lib.hid hn
  clear hn
  go_enter Try.func43, Try.ntmps43
  go_upto_region 2 with (go_at_call 55; refine cS.out.mono ?_; rintro e w2 ⟨⟨p, b, rfl, h1, -⟩, hb⟩)
  have hpn : p ≤ n := by rw [← HN.out]; exact h1.le
  obtain ⟨rfl, rfl⟩ := HT.out p h1
  have HMC := Lib.hid (HH.out.kept hb)
  have HB := Lib.hid hb
  have HL1 : Hid ((L.take p).length = p) := by unfold Hid; rw [List.length_take, HN.out]; omega
  have HL2 : Hid ((L.drop p).length = n - p) := by unfold Hid; rw [List.length_drop, HN.out]
  have r1 := fun w => run_upToK (P := Try.prog) Try.underlying28 mginfo A n c p (by omega) w
  have r2 := fun w => run_cutK (P := Try.prog) Try.underlying28 mginfo A n c p hpn w
  clear h1 hb cS HT
  refine Drift.wp_region_drift [] [(0,[]),(1,[]),(2,[]),(4,[]),(5,[]),(6,[]),(3,[]),(7,[]),(8,[]),(9,[])] [3, 7] [] (by kernel_rfl) (by kernel_rfl) (by simp) ?_
  simp only [Drift.pick, Drift.opsAt, List.getElem?_toArray, List.getElem?_cons_zero, List.getElem?_cons_succ, List.cons_append, List.nil_append, List.filterMap_nil]
  repeat (refine Drift.walk_step (fun K hK => ?_); go_simp; (refine hK _ ?_; clear hK K))
  refine Drift.walk_event rfl Drift.mkwalk_nil (EvRK MgK W.heap.size p (L.take p)) (fun W2 hk _ => ?_) (fun v w5 hv hI _ hTd => ?_)
  · go_simp
    go_at_call 56
    refine (Lf.cloneRM (X := L.take p) ((HMC.out.kept hk).upTo p).1 HL1.out (by omega)).mono ?_
    rintro e w' ⟨⟨v, rfl, A', c', rfl, hv⟩, hb⟩
    exact ⟨_, rfl, ⟨A', c', rfl, hv.mono (Nat.le_trans HB.out.size hk.size)⟩, Flow.Into.of_below hb⟩
  obtain ⟨A1, c1, rfl, hv⟩ := hv
  have HV1 := Lib.hid hv
  have HMC5 := Lib.hid (HMC.out.kept hI.below)
  have HB5 : Hid (Below W.heap.size W w5) := HB.out.trans (hI.below.mono HB.out.size)
  clear hI hv hTd HMC
  refine Drift.walk_event rfl Drift.mkwalk_nil (EvRK MgK W.heap.size (n - p) (L.drop p)) (fun W2 hk _ => ?_) (fun v w6 hv hI _ hTd => ?_)
  · go_simp
    go_at_call 56
    refine (Lf.cloneRM (X := L.drop p) ((HMC5.out.kept hk).cut p).1 HL2.out (by omega)).mono ?_
    rintro e w' ⟨⟨v, rfl, A', c', rfl, hv⟩, hb⟩
    exact ⟨_, rfl, ⟨A', c', rfl, hv.mono (Nat.le_trans HB5.out.size hk.size)⟩, Flow.Into.of_below hb⟩
  obtain ⟨A2, c2, rfl, hv⟩ := hv
  have HV2 := Lib.hid hv
  have HV1' := Lib.hid (HV1.out.kept hI.below)
  have HB6 : Hid (Below W.heap.size W w6) := HB5.out.trans (hI.below.mono HB5.out.size)
  clear hI hv HV1 HMC5 HB5
  repeat (refine Drift.walk_step (fun K hK => ?_); go_simp; (refine hK _ ?_; clear hK K))
  refine Drift.walk_nil ?_
  intro w7 hb7 _
  have HB7 : Hid (Below W.heap.size W w7) := HB6.out.trans (hb7.mono HB6.out.size)
  have HV3 := Lib.hid (HV1'.out.kept hb7)
  have HV4 := Lib.hid (HV2.out.kept hb7)
  clear hTd hb7 HV1' HV2 HB6 r1 r2
  simp only [List.length_cons, List.length_nil, List.drop_succ_cons, List.drop_zero, Nat.zero_add, Nat.reduceAdd]
  go_wp2_with fail
  exact bodyPost_ret (v := .tuple #[.slice A1 p c1, .slice A2 (n - p) c2]) (by simp [results, Try.results43, go_sem]) rfl ⟨⟨_, rfl, A1, c1, A2, c2, by rw [HL1.out, HL2.out], HV3.out, HV4.out⟩, HB7.out⟩
/-- a store that changes nothing -/
def EvSame (w0 : World) (v : Value) (w : World) : Prop := v = undef ∧ Below w0.heap.size w0 w
/-- a node whose lists lie in rows of the call's own -/
structure NdOwn (w : World) (B : Nat) (n : Nd) (a : At) : Prop where
  kids : VK KdK w B a.kA a.kc n.kids
  piv : VK StK w B a.pA a.pc n.piv
  buf : VK MgK w B a.bA a.bc n.buf
  prs : VK PrK w B a.qA a.qc n.prs
theorem NdOwn.in_ {w : World} {B : Nat} {n : Nd} {a : At} (h : NdOwn w B n a) : NdIn w n a := ⟨h.kids.rc, h.piv.rc, h.buf.rc, h.prs.rc⟩
theorem NdOwn.mono {w : World} {B B' : Nat} {n : Nd} {a : At} (h : NdOwn w B n a) (hb : B' ≤ B) : NdOwn w B' n a := ⟨h.kids.mono hb, h.piv.mono hb, h.buf.mono hb, h.prs.mono hb⟩
theorem NdOwn.kept {w w' : World} {B : Nat} {n : Nd} {a : At} (h : NdOwn w B n a) (hb : Below w.heap.size w w') : NdOwn w' B n a := ⟨h.kids.kept hb, h.piv.kept hb, h.buf.kept hb, h.prs.kept hb⟩
theorem NdOwn.zero (w : World) (B : Nat) : NdOwn w B zeroN ⟨none, 0, none, 0, none, 0, none, 0⟩ := ⟨VK.nil _ _, VK.nil _ _, VK.nil _ _, VK.nil _ _⟩
/-- what Halve tells -/
def EvHalve (B : Nat) (h : Nd × Nd × ByteArray × Bool) (v : Value) (w : World) : Prop := ∃ z z', v = .tuple #[.agg (ndCs h.1 z), .agg (ndCs h.2.1 z'), .string h.2.2.1, .bool h.2.2.2] ∧ NdOwn w B h.1 z ∧ NdOwn w B h.2.1 z'
theorem vk_set {α : Type} {K : Kind α} {w w' : World} {B c b : Nat} {A : Option Addr} {L : List α} (h : VK K w B A c L) (hi : Flow.Into [b] w w') (hb : b < B) : VK K w' B A c L := h.into hi fun a ha hm => by
  have h1 := (h.at_ a ha).1
  obtain rfl : a.block = b := by simpa using hm
  omega
theorem nd_set {w w' : World} {B b : Nat} {n : Nd} {a : At} (h : NdOwn w B n a) (hi : Flow.Into [b] w w') (hb : b < B) : NdOwn w' B n a := ⟨vk_set h.kids hi hb, vk_set h.piv hi hb, vk_set h.buf hi hb, vk_set h.prs hi hb⟩
set_option maxRecDepth 100000 in
set_option maxHeartbeats 8000000 in
theorem halveKids_few {W : World} {n : Nd} (a : At) (hl : n.lv ≠ 0) (h2 : n.kids.length < 2) : Calls Try.prog 24 #[.agg (ndCs n a)] W fun e w' => (∃ v, e = .returned v ∧ EvHalve W.heap.size (halfN n) v w') ∧ Below W.heap.size W w' := by
  rw [halfN_few hl h2]
  obtain ⟨lv, K, P, B, Q⟩ := n
  obtain ⟨kA, kc, pA, pc, bA, bc, qA, qc⟩ := a
  unfold ndCs
  simp only at *
  generalize K.length = kn at *
  generalize P.length = pn at *
  generalize B.length = bn at *
  generalize Q.length = qn at *
  clear hl
  go_enter Try.func24, Try.ntmps24
  go_upto_region 1 with fail
  have HB := Lib.hid (B3.new W (.cells #[.int .i64 lv, .slice kA kn kc, .slice pA pn pc, .slice bA bn bc, .slice qA qn qc] 31) (.cells #[.int .i64 0, .slice none 0 0, .slice none 0 0, .slice none 0 0, .slice none 0 0] 31) (.cells #[.int .i64 0, .slice none 0 0, .slice none 0 0, .slice none 0 0, .slice none 0 0] 31))
  generalize ((W.alloc (.cells #[.int .i64 lv, .slice kA kn kc, .slice pA pn pc, .slice bA bn bc, .slice qA qn qc] 31)).alloc (.cells #[.int .i64 0, .slice none 0 0, .slice none 0 0, .slice none 0 0, .slice none 0 0] 31)).alloc (.cells #[.int .i64 0, .slice none 0 0, .slice none 0 0, .slice none 0 0, .slice none 0 0] 31) = w1 at *
  obtain ⟨g, hg⟩ : ∃ g, g = W.heap.size := ⟨_, rfl⟩
  rw [← hg] at HB
  simp only [← hg]
  clear hg
  obtain ⟨d0, d1, d2, d3, d4⟩ := box5 HB.out.x
  obtain ⟨s0, s1, s2, s3, s4⟩ := box5 HB.out.y
  obtain ⟨u0, u1, u2, u3, u4⟩ := box5 HB.out.z
  have y0 := free5 HB.out.y 0; have y1 := free5 HB.out.y 1; have y2 := free5 HB.out.y 2; have y3 := free5 HB.out.y 3; have y4 := free5 HB.out.y 4
  have x0 := free5 HB.out.z 0; have x1 := free5 HB.out.z 1; have x2 := free5 HB.out.z 2; have x3 := free5 HB.out.z 3; have x4 := free5 HB.out.z 4
  go_wp2_with fail
  clear y0 y1 y2 y3 y4 s0 s1 s2 s3 s4
  clear x0 x1 x2 x3 x4 u0 u1 u2 u3 u4
  have HIw2 := Lib.hid (into_set5 w1 (g + 1) (.int .i64 0) (.slice none 0 0) (.slice none 0 0) (.slice none 0 0) (.slice none 0 0))
  replace HB := Lib.hid (HB.out.set5y (.int .i64 0) (.slice none 0 0) (.slice none 0 0) (.slice none 0 0) (.slice none 0 0))
  unfold set5 at HIw2 HB
  generalize ((((w1.setCell ⟨g + 1, 0, none⟩ (.int .i64 0)).setCell ⟨g + 1, 1, none⟩ (.slice none 0 0)).setCell ⟨g + 1, 2, none⟩ (.slice none 0 0)).setCell ⟨g + 1, 3, none⟩ (.slice none 0 0)).setCell ⟨g + 1, 4, none⟩ (.slice none 0 0) = w2 at *
  have HIw3 := Lib.hid (into_set5 w2 (g + 1 + 1) (.int .i64 0) (.slice none 0 0) (.slice none 0 0) (.slice none 0 0) (.slice none 0 0))
  replace HB := Lib.hid (HB.out.set5z (.int .i64 0) (.slice none 0 0) (.slice none 0 0) (.slice none 0 0) (.slice none 0 0))
  unfold set5 at HIw3 HB
  generalize ((((w2.setCell ⟨g + 1 + 1, 0, none⟩ (.int .i64 0)).setCell ⟨g + 1 + 1, 1, none⟩ (.slice none 0 0)).setCell ⟨g + 1 + 1, 2, none⟩ (.slice none 0 0)).setCell ⟨g + 1 + 1, 3, none⟩ (.slice none 0 0)).setCell ⟨g + 1 + 1, 4, none⟩ (.slice none 0 0) = w3 at *
  obtain ⟨s0, s1, s2, s3, s4⟩ := box5 HB.out.y
  obtain ⟨u0, u1, u2, u3, u4⟩ := box5 HB.out.z
  exact bodyPost_ret (v := .tuple #[.agg #[.int .i64 0, .slice none 0 0, .slice none 0 0, .slice none 0 0, .slice none 0 0], .agg #[.int .i64 0, .slice none 0 0, .slice none 0 0, .slice none 0 0, .slice none 0 0], .string ⟨#[]⟩, .bool false]) (by simp [results, Try.results24, go_sem, s0, s1, s2, s3, s4, u0, u1, u2, u3, u4]) rfl ⟨⟨_, rfl, _, _, rfl, NdOwn.zero _ _, NdOwn.zero _ _⟩, HB.out.below⟩
set_option maxRecDepth 100000 in
set_option maxHeartbeats 16000000 in
theorem halveKids_some {W : World} {c : Cfg} {lo hi : ByteArray} {top : Bool} {n : Nd} {a : At} (h : NdIn W n a) (hr : InnerP c lo hi top n) (hf : Fit n) (hl : n.lv ≠ 0) (h2 : 2 ≤ n.kids.length) : Calls Try.prog 24 #[.agg (ndCs n a)] W fun e w' => (∃ v, e = .returned v ∧ EvHalve W.heap.size (halfN n) v w') ∧ Below W.heap.size W w' := by
  obtain ⟨k, p, hk, hk1, hk2, hp⟩ := hr.pivot h2
  rw [halfN_inner hl h2 hk hp]
  have hfe := hr.fewer
  have q1 := hf.kids
  have q2 := hf.piv
  have q3 := hf.buf
  have hri := rise_iff.1 hr.rise
  obtain ⟨j, hj⟩ : ∃ j, j = k - 1 := ⟨_, rfl⟩
  rw [← hj] at hp ⊢
  have HH := Lib.hid h
  obtain ⟨lv, K, P, B, Q⟩ := n
  obtain ⟨kA, kc, pA, pc, bA, bc, qA, qc⟩ := a
  unfold ndCs
  simp only at *
  have hkc := h.kids.2
  have hpc := h.piv.2
  simp only at hkc hpc
  have hjp := (List.getElem?_eq_some_iff.1 hp).1
  have cS : ∀ w, Below W.heap.size W w → Hid (Calls Try.prog 43 #[.slice bA B.length bc, .string p] w fun e w' => (∃ v, e = .returned v ∧ EvSplit w.heap.size p B v w') ∧ Below w.heap.size w w') := fun w hb => Split_any (c := bc) (h.kept hb).buf p hri (show B.length ≤ 1000 by omega)
  obtain ⟨bp, op, ep, hpb, -⟩ := RdK.str h.piv.1 hp
  simp only at ep
  subst ep
  have hcp : ∀ w, Below W.heap.size W w → Hid (w.cell? ⟨bp, op + j, none⟩ = some (.string p)) := fun w hb => by
    obtain ⟨b', o', e', -, h'⟩ := RdK.str (h.kept hb).piv.1 hp
    obtain ⟨rfl, rfl⟩ : bp = b' ∧ op = o' := by simpa using e'
    exact h'
  have HKT : Hid ((K.take k).length = k) := by unfold Hid; rw [List.length_take]; omega
  have HKD : Hid ((K.drop k).length = K.length - k) := by unfold Hid; rw [List.length_drop]
  have HPT : Hid ((P.take j).length = j) := by unfold Hid; rw [List.length_take]; omega
  have HPD : Hid ((P.drop k).length = P.length - k) := by unfold Hid; rw [List.length_drop]
  clear hr hf hri h hl hp hpb
  generalize K.length = kn at *
  generalize P.length = pn at *
  generalize B.length = bn at *
  generalize Q.length = qn at *
  have hw1 : IntKind.i64.wrap ((kn : Int) - 1) = (pn : Int) := by rw [IntKind.wrap_i64]; omega
  have hw2 : IntKind.i64.wrap ((kn : Int) + 1) = ((kn + 1 : Nat) : Int) := by rw [IntKind.wrap_i64]; omega
  have HQ : Hid (wrap64 (((kn : Int) + 1).tdiv 2) = (k : Int)) := by
    unfold Hid wrap64
    rw [Int.tdiv_eq_ediv_of_nonneg (by omega)]
    omega
  have hw4 : IntKind.i64.wrap ((k : Int) - 1) = (j : Int) := by rw [IntKind.wrap_i64]; omega
  have hd : decide ((kn : Int) < 2) = false := by simp; omega
  have hd2 : ((pn : Int) != (pn : Int)) = false := by simp
  have HKL := Lib.hid (⟨by omega, by omega, by omega, by omega⟩ : k ≤ 1000 ∧ kn - k ≤ 1000 ∧ j ≤ 1000 ∧ pn - k ≤ 1000)
  have r1 := fun w => run_upToK (P := Try.prog) Try.underlying26 slinfoK kA kn kc k (by omega) w
  have r2 := fun w => run_cutK (P := Try.prog) Try.underlying26 slinfoK kA kn kc k (by omega) w
  have r3 := fun w => run_upToK (P := Try.prog) Try.underlying27 slinfoS (some ⟨bp, op, none⟩) pn pc j (by omega) w
  have r4 := fun w => run_cutK (P := Try.prog) Try.underlying27 slinfoS (some ⟨bp, op, none⟩) pn pc k (by omega) w
  clear hk hk1 hk2 hfe q1 q2 q3 hj hkc hpc h2
  go_enter Try.func24, Try.ntmps24
  go_upto_region 1 with fail
  have HB := Lib.hid (B3.new W (.cells #[.int .i64 lv, .slice kA kn kc, .slice (some ⟨bp, op, none⟩) pn pc, .slice bA bn bc, .slice qA qn qc] 31) (.cells #[.int .i64 0, .slice none 0 0, .slice none 0 0, .slice none 0 0, .slice none 0 0] 31) (.cells #[.int .i64 0, .slice none 0 0, .slice none 0 0, .slice none 0 0, .slice none 0 0] 31))
  generalize ((W.alloc (.cells #[.int .i64 lv, .slice kA kn kc, .slice (some ⟨bp, op, none⟩) pn pc, .slice bA bn bc, .slice qA qn qc] 31)).alloc (.cells #[.int .i64 0, .slice none 0 0, .slice none 0 0, .slice none 0 0, .slice none 0 0] 31)).alloc (.cells #[.int .i64 0, .slice none 0 0, .slice none 0 0, .slice none 0 0, .slice none 0 0] 31) = w1 at *
  obtain ⟨g, hg⟩ : ∃ g, g = W.heap.size := ⟨_, rfl⟩
  rw [← hg] at HB
  simp only [← hg]
  clear hg
  obtain ⟨d0, d1, d2, d3, d4⟩ := box5 HB.out.x
  go_upto_region 4 with fail
  rw [HQ.out]
  clear hd hd2 hw1 hw2 HQ
  have hcell := (hcp _ HB.out.below).out
  clear hcp
  go_upto_region 6 with (go_at_call 43; refine (cS _ HB.out.below).out.mono ?_; rintro e w2 ⟨⟨v, rfl, A1, c1, A2, c2, rfl, hv1, hv2⟩, hb⟩; have HV1 := Lib.hid (hv1.mono HB.out.lt); have HV2 := Lib.hid (hv2.mono HB.out.lt); replace HB := Lib.hid (HB.out.kept hb); clear hv1 hv2 hb d0 d1 d2 d3 d4 hcell)
  clear cS
  generalize hX1 : belowM p B = B1 at *
  generalize hX2 : restM p B = B2 at *
  have HX1 := Lib.hid hX1
  have HX2 := Lib.hid hX2
  clear hX1 hX2
  generalize hb1 : B1.length = b1n at *
  generalize hb2 : B2.length = b2n at *
  have HB1 := Lib.hid hb1
  have HB2 := Lib.hid hb2
  clear hb1 hb2
  obtain ⟨d0, d1, d2, d3, d4⟩ := box5 HB.out.x
  have z0 := fun q : Drift.Tide [] w2 [] => Drift.Tide.cell d0 (by simp) q; have z1 := fun q : Drift.Tide [] w2 [] => Drift.Tide.cell d1 (by simp) q; have z2 := fun q : Drift.Tide [] w2 [] => Drift.Tide.cell d2 (by simp) q
  clear d0 d1 d2 d3 d4
  have HN2 := Lib.hid (HH.out.kept HB.out.below)
  refine Drift.wp_region_drift [] [(0,[]),(1,[]),(2,[]),(3,[]),(4,[]),(5,[]),(7,[]),(8,[]),(9,[]),(10,[]),(11,[]),(13,[]),(6,[]),(12,[]),(14,[])] [6, 12] [] (by kernel_rfl) (by kernel_rfl) (by simp) ?_
  simp only [Drift.pick, Drift.opsAt, List.getElem?_toArray, List.getElem?_cons_zero, List.getElem?_cons_succ, List.cons_append, List.nil_append, List.filterMap_nil]
  repeat (refine Drift.walk_step (fun K hK => ?_); go_simp; (refine hK _ ?_; clear hK K))
  refine Drift.walk_event rfl Drift.mkwalk_nil (EvRK KdK (g + 1 + 1 + 1) k (K.take k)) (fun W2 hk _ => ?_) (fun v w3 hv hI _ hTd3 => ?_)
  · go_simp
    go_at_call 44
    refine (cloneRK (X := K.take k) ((HN2.out.kept hk).kids.upTo k).1 HKT.out (Nat.le_trans HKL.out.1 (by decide))).mono ?_
    rintro e w' ⟨⟨v, rfl, A', c', rfl, hv⟩, hb⟩
    exact ⟨_, rfl, ⟨A', c', rfl, hv.mono (Nat.le_trans HB.out.lt hk.size)⟩, Flow.Into.of_below hb⟩
  obtain ⟨A3, c3, rfl, hv⟩ := hv
  have HV3 := Lib.hid hv
  have HBK : Hid (Below w2.heap.size w2 w3) := hI.below
  clear hv hI
  refine Drift.walk_event rfl Drift.mkwalk_nil (EvRK StK (g + 1 + 1 + 1) j (P.take j)) (fun W2 hk _ => ?_) (fun v w4 hv hI _ hTd4 => ?_)
  · go_simp
    go_at_call 45
    refine (Fa.cloneRS (X := P.take j) ((HN2.out.kept (HBK.out.trans (hk.mono HBK.out.size))).piv.upTo j).1 HPT.out (Nat.le_trans HKL.out.2.2.1 (by decide))).mono ?_
    rintro e w' ⟨⟨v, rfl, A', c', rfl, hv⟩, hb⟩
    exact ⟨_, rfl, ⟨A', c', rfl, hv.mono (Nat.le_trans HB.out.lt (Nat.le_trans HBK.out.size hk.size))⟩, Flow.Into.of_below hb⟩
  obtain ⟨A4, c4, rfl, hv⟩ := hv
  have HV4 := Lib.hid hv
  replace HV3 := Lib.hid (HV3.out.kept hI.below)
  have HBK2 : Hid (Below w2.heap.size w2 w4) := HBK.out.trans (hI.below.mono HBK.out.size)
  clear hv hI HBK
  repeat (refine Drift.walk_step (fun K hK => ?_); go_simp; (refine hK _ ?_; clear hK K))
  refine Drift.walk_nil ?_
  intro w5 hb5 _
  have HVA := Lib.hid (HV3.out.kept hb5)
  have HVB := Lib.hid (HV4.out.kept hb5)
  have HB5 : Hid (Below w2.heap.size w2 w5) := HBK2.out.trans (hb5.mono HBK2.out.size)
  replace HV1 := Lib.hid (HV1.out.kept HB5.out)
  replace HV2 := Lib.hid (HV2.out.kept HB5.out)
  replace HB := Lib.hid (HB.out.kept HB5.out)
  clear hb5 HV3 HV4 HBK2 z0 z1 z2 HN2 hTd3 hTd4 HB5
  simp only [List.length_cons, List.length_nil, List.drop_succ_cons, List.drop_zero, Nat.zero_add, Nat.reduceAdd]
  have y0 := free5 HB.out.y 0; have y1 := free5 HB.out.y 1; have y2 := free5 HB.out.y 2; have y3 := free5 HB.out.y 3; have y4 := free5 HB.out.y 4
  obtain ⟨s0, s1, s2, s3, s4⟩ := box5 HB.out.y
  go_wp2_with fail
  clear y0 y1 y2 y3 y4 s0 s1 s2 s3 s4
  have HIw6 := Lib.hid (into_set5 w5 (g + 1) (.int .i64 lv) (.slice A3 k c3) (.slice A4 j c4) (.slice A1 b1n c1) (.slice none 0 0))
  replace HB := Lib.hid (HB.out.set5y (.int .i64 lv) (.slice A3 k c3) (.slice A4 j c4) (.slice A1 b1n c1) (.slice none 0 0))
  unfold set5 at HIw6 HB
  generalize ((((w5.setCell ⟨g + 1, 0, none⟩ (.int .i64 lv)).setCell ⟨g + 1, 1, none⟩ (.slice A3 k c3)).setCell ⟨g + 1, 2, none⟩ (.slice A4 j c4)).setCell ⟨g + 1, 3, none⟩ (.slice A1 b1n c1)).setCell ⟨g + 1, 4, none⟩ (.slice none 0 0) = w6 at *
  replace HV1 := Lib.hid (vk_set HV1.out HIw6.out (by omega))
  replace HV2 := Lib.hid (vk_set HV2.out HIw6.out (by omega))
  replace HVA := Lib.hid (vk_set HVA.out HIw6.out (by omega))
  replace HVB := Lib.hid (vk_set HVB.out HIw6.out (by omega))
  clear HIw6
  obtain ⟨d0, d1, d2, d3, d4⟩ := box5 HB.out.x
  have z0 := fun q : Drift.Tide [] w6 [] => Drift.Tide.cell d0 (by simp) q; have z1 := fun q : Drift.Tide [] w6 [] => Drift.Tide.cell d1 (by simp) q; have z2 := fun q : Drift.Tide [] w6 [] => Drift.Tide.cell d2 (by simp) q
  clear d0 d1 d2 d3 d4
  have HN2 := Lib.hid (HH.out.kept HB.out.below)
  refine Drift.wp_region_drift [] [(0,[]),(1,[]),(2,[]),(3,[]),(4,[]),(5,[]),(7,[]),(8,[]),(9,[]),(10,[]),(12,[]),(6,[]),(11,[]),(13,[])] [6, 11] [] (by kernel_rfl) (by kernel_rfl) (by simp) ?_
  simp only [Drift.pick, Drift.opsAt, List.getElem?_toArray, List.getElem?_cons_zero, List.getElem?_cons_succ, List.cons_append, List.nil_append, List.filterMap_nil]
  repeat (refine Drift.walk_step (fun K hK => ?_); go_simp; (refine hK _ ?_; clear hK K))
  refine Drift.walk_event rfl Drift.mkwalk_nil (EvRK KdK (g + 1 + 1 + 1) (kn - k) (K.drop k)) (fun W2 hk _ => ?_) (fun v w7 hv hI _ hTd3 => ?_)
  · go_simp
    go_at_call 44
    refine (cloneRK (X := K.drop k) ((HN2.out.kept hk).kids.cut k).1 HKD.out (Nat.le_trans HKL.out.2.1 (by decide))).mono ?_
    rintro e w' ⟨⟨v, rfl, A', c', rfl, hv⟩, hb⟩
    exact ⟨_, rfl, ⟨A', c', rfl, hv.mono (Nat.le_trans HB.out.lt hk.size)⟩, Flow.Into.of_below hb⟩
  obtain ⟨A5, c5, rfl, hv⟩ := hv
  have HV3 := Lib.hid hv
  have HBK : Hid (Below w6.heap.size w6 w7) := hI.below
  clear hv hI
  refine Drift.walk_event rfl Drift.mkwalk_nil (EvRK StK (g + 1 + 1 + 1) (pn - k) (P.drop k)) (fun W2 hk _ => ?_) (fun v w8 hv hI _ hTd4 => ?_)
  · go_simp
    go_at_call 45
    refine (Fa.cloneRS (X := P.drop k) ((HN2.out.kept (HBK.out.trans (hk.mono HBK.out.size))).piv.cut k).1 HPD.out (Nat.le_trans HKL.out.2.2.2 (by decide))).mono ?_
    rintro e w' ⟨⟨v, rfl, A', c', rfl, hv⟩, hb⟩
    exact ⟨_, rfl, ⟨A', c', rfl, hv.mono (Nat.le_trans HB.out.lt (Nat.le_trans HBK.out.size hk.size))⟩, Flow.Into.of_below hb⟩
  obtain ⟨A6, c6, rfl, hv⟩ := hv
  have HV4 := Lib.hid hv
  replace HV3 := Lib.hid (HV3.out.kept hI.below)
  have HBK2 : Hid (Below w6.heap.size w6 w8) := HBK.out.trans (hI.below.mono HBK.out.size)
  clear hv hI HBK
  repeat (refine Drift.walk_step (fun K hK => ?_); go_simp; (refine hK _ ?_; clear hK K))
  refine Drift.walk_nil ?_
  intro w9 hb9 _
  have HVC := Lib.hid (HV3.out.kept hb9)
  have HVD := Lib.hid (HV4.out.kept hb9)
  have HB9 : Hid (Below w6.heap.size w6 w9) := HBK2.out.trans (hb9.mono HBK2.out.size)
  replace HV1 := Lib.hid (HV1.out.kept HB9.out)
  replace HV2 := Lib.hid (HV2.out.kept HB9.out)
  replace HVA := Lib.hid (HVA.out.kept HB9.out)
  replace HVB := Lib.hid (HVB.out.kept HB9.out)
  replace HB := Lib.hid (HB.out.kept HB9.out)
  clear hb9 HV3 HV4 HBK2 z0 z1 z2 HN2 hTd3 hTd4 HB9 r1 r2 r3 r4 hw4
  simp only [List.length_cons, List.length_nil, List.drop_succ_cons, List.drop_zero, Nat.zero_add, Nat.reduceAdd]
  have x0 := free5 HB.out.z 0; have x1 := free5 HB.out.z 1; have x2 := free5 HB.out.z 2; have x3 := free5 HB.out.z 3; have x4 := free5 HB.out.z 4
  obtain ⟨u0, u1, u2, u3, u4⟩ := box5 HB.out.z
  go_wp2_with fail
  clear x0 x1 x2 x3 x4 u0 u1 u2 u3 u4
  have HIw10 := Lib.hid (into_set5 w9 (g + 1 + 1) (.int .i64 lv) (.slice A5 (kn - k) c5) (.slice A6 (pn - k) c6) (.slice A2 b2n c2) (.slice none 0 0))
  replace HB := Lib.hid (HB.out.set5z (.int .i64 lv) (.slice A5 (kn - k) c5) (.slice A6 (pn - k) c6) (.slice A2 b2n c2) (.slice none 0 0))
  unfold set5 at HIw10 HB
  generalize ((((w9.setCell ⟨g + 1 + 1, 0, none⟩ (.int .i64 lv)).setCell ⟨g + 1 + 1, 1, none⟩ (.slice A5 (kn - k) c5)).setCell ⟨g + 1 + 1, 2, none⟩ (.slice A6 (pn - k) c6)).setCell ⟨g + 1 + 1, 3, none⟩ (.slice A2 b2n c2)).setCell ⟨g + 1 + 1, 4, none⟩ (.slice none 0 0) = w10 at *
  replace HV1 := Lib.hid (vk_set HV1.out HIw10.out (by omega))
  replace HV2 := Lib.hid (vk_set HV2.out HIw10.out (by omega))
  replace HVA := Lib.hid (vk_set HVA.out HIw10.out (by omega))
  replace HVB := Lib.hid (vk_set HVB.out HIw10.out (by omega))
  replace HVC := Lib.hid (vk_set HVC.out HIw10.out (by omega))
  replace HVD := Lib.hid (vk_set HVD.out HIw10.out (by omega))
  clear HIw10
  obtain ⟨s0, s1, s2, s3, s4⟩ := box5 HB.out.y
  obtain ⟨u0, u1, u2, u3, u4⟩ := box5 HB.out.z
  have m0 := fun q : Drift.Tide [] w10 [] => Drift.Tide.cell s0 (by simp) q; have m1 := fun q : Drift.Tide [] w10 [] => Drift.Tide.cell s1 (by simp) q; have m2 := fun q : Drift.Tide [] w10 [] => Drift.Tide.cell s2 (by simp) q; have m3 := fun q : Drift.Tide [] w10 [] => Drift.Tide.cell s3 (by simp) q; have m4 := fun q : Drift.Tide [] w10 [] => Drift.Tide.cell s4 (by simp) q
  have n0 := fun q : Drift.Tide [] w10 [] => Drift.Tide.cell u0 (by simp) q; have n1 := fun q : Drift.Tide [] w10 [] => Drift.Tide.cell u1 (by simp) q; have n2 := fun q : Drift.Tide [] w10 [] => Drift.Tide.cell u2 (by simp) q; have n3 := fun q : Drift.Tide [] w10 [] => Drift.Tide.cell u3 (by simp) q; have n4 := fun q : Drift.Tide [] w10 [] => Drift.Tide.cell u4 (by simp) q
  clear s0 s1 s2 s3 s4 u0 u1 u2 u3 u4
  have HBK := Lib.hid HB.out
  refine Drift.wp_region_drift [] [(0,[]),(1,[]),(2,[]),(3,[]),(4,[])] [3, 4] [] (by kernel_rfl) (by kernel_rfl) (by simp) ?_
  simp only [Drift.pick, Drift.opsAt, List.getElem?_toArray, List.getElem?_cons_zero, List.getElem?_cons_succ, List.cons_append, List.nil_append, List.filterMap_nil]
  repeat (refine Drift.walk_step (fun K hK => ?_); go_simp; (refine hK _ ?_; clear hK K))
  refine Drift.walk_event rfl Drift.mkwalk_nil (EvSame w10) (fun W2 hk _ => ?_) (fun v w11 hv hI _ hTd11 => ?_)
  · have HE := Lib.hid (set5_same (HBK.out.kept hk).y)
    obtain ⟨e0, e1, e2, e3, e4⟩ := box5 (HBK.out.kept hk).y
    have f0 := free5 (HBK.out.kept hk).y 0
    have f1 := free5 (HBK.out.kept hk).y 1
    have f2 := free5 (HBK.out.kept hk).y 2
    have f3 := free5 (HBK.out.kept hk).y 3
    have f4 := free5 (HBK.out.kept hk).y 4
    go_simp
    unfold set5 at HE
    rw [HE.out]
    exact ⟨⟨rfl, hk⟩, Flow.Into.refl _ _⟩
  obtain ⟨rfl, hv11⟩ := hv
  replace HBK := Lib.hid (HBK.out.kept hv11)
  refine Drift.walk_event rfl Drift.mkwalk_nil (EvSame w11) (fun W2 hk _ => ?_) (fun v w12 hv hI _ hTd12 => ?_)
  · have HE := Lib.hid (set5_same (HBK.out.kept hk).z)
    obtain ⟨e0, e1, e2, e3, e4⟩ := box5 (HBK.out.kept hk).z
    have f0 := free5 (HBK.out.kept hk).z 0
    have f1 := free5 (HBK.out.kept hk).z 1
    have f2 := free5 (HBK.out.kept hk).z 2
    have f3 := free5 (HBK.out.kept hk).z 3
    have f4 := free5 (HBK.out.kept hk).z 4
    go_simp
    unfold set5 at HE
    rw [HE.out]
    exact ⟨⟨rfl, hk⟩, Flow.Into.refl _ _⟩
  obtain ⟨rfl, hv12⟩ := hv
  refine Drift.walk_nil ?_
  intro w13 hb13 _
  have HBF : Hid (Below w10.heap.size w10 w13) := hv11.trans ((hv12.mono hv11.size).trans (hb13.mono (Nat.le_trans hv11.size hv12.size)))
  replace HV1 := Lib.hid (HV1.out.kept HBF.out)
  replace HV2 := Lib.hid (HV2.out.kept HBF.out)
  replace HVA := Lib.hid (HVA.out.kept HBF.out)
  replace HVB := Lib.hid (HVB.out.kept HBF.out)
  replace HVC := Lib.hid (HVC.out.kept HBF.out)
  replace HVD := Lib.hid (HVD.out.kept HBF.out)
  replace HB := Lib.hid (HB.out.kept HBF.out)
  clear HBK HBF hv11 hv12 hb13 m0 m1 m2 m3 m4 n0 n1 n2 n3 n4 hTd11 hTd12
  simp only [List.length_cons, List.length_nil, List.drop_succ_cons, List.drop_zero, Nat.zero_add, Nat.reduceAdd]
  obtain ⟨s0, s1, s2, s3, s4⟩ := box5 HB.out.y
  obtain ⟨u0, u1, u2, u3, u4⟩ := box5 HB.out.z
  go_wp2_with fail
  obtain rfl := HX1.out
  obtain rfl := HX2.out
  refine bodyPost_ret (v := .tuple #[.agg #[.int .i64 lv, .slice A3 k c3, .slice A4 j c4, .slice A1 b1n c1, .slice none 0 0], .agg #[.int .i64 lv, .slice A5 (kn - k) c5, .slice A6 (pn - k) c6, .slice A2 b2n c2, .slice none 0 0], .string p, .bool true]) (by simp [results, Try.results24, go_sem, s0, s1, s2, s3, s4, u0, u1, u2, u3, u4]) rfl ⟨⟨_, rfl, ⟨A3, c3, A4, c4, A1, c1, none, 0⟩, ⟨A5, c5, A6, c6, A2, c2, none, 0⟩, ?_, ⟨HVA.out.mono (show W.heap.size ≤ g + 1 + 1 + 1 from Nat.le_trans HB.out.at_ (by omega)), HVB.out.mono (show W.heap.size ≤ g + 1 + 1 + 1 from Nat.le_trans HB.out.at_ (by omega)), HV1.out.mono (show W.heap.size ≤ g + 1 + 1 + 1 from Nat.le_trans HB.out.at_ (by omega)), VK.nil _ _⟩, ⟨HVC.out.mono (show W.heap.size ≤ g + 1 + 1 + 1 from Nat.le_trans HB.out.at_ (by omega)), HVD.out.mono (show W.heap.size ≤ g + 1 + 1 + 1 from Nat.le_trans HB.out.at_ (by omega)), HV2.out.mono (show W.heap.size ≤ g + 1 + 1 + 1 from Nat.le_trans HB.out.at_ (by omega)), VK.nil _ _⟩⟩, HB.out.below⟩
  simp only [ndCs, HKT.out, HPT.out, HKD.out, HPD.out, HB1.out, HB2.out, List.length_nil]
theorem halfP_lens {L : List Pr} {m : Nat} (h : L.length ≤ m) : (halfP L).1.length ≤ m ∧ (halfP L).2.1.length ≤ m := by
  rcases Nat.lt_or_ge L.length 2 with h2 | h2
  · rw [halfP_few h2]
    exact ⟨Nat.zero_le _, Nat.zero_le _⟩
  · obtain ⟨x, y, _, _, e⟩ := halfP_at h2
    rw [e]
    simp only [List.length_take, List.length_drop]
    omega
set_option maxRecDepth 100000 in
set_option maxHeartbeats 16000000 in
theorem Halve_any {W : World} {c : Cfg} {lo hi : ByteArray} {top : Bool} {n : Nd} {a : At} (h : NdIn W n a) (hr : RightN c lo hi top n) (hf : Fit n) : Calls Try.prog 10 #[.agg (ndCs n a)] W fun e w' => (∃ v, e = .returned v ∧ EvHalve W.heap.size (halfN n) v w') ∧ Below W.heap.size W w' := by
  by_cases hl : n.lv = 0
  · rw [halfN_leaf hl]
    have cH : ∀ w, Below W.heap.size W w → Hid (Calls Try.prog 23 #[.slice a.qA n.prs.length a.qc] w fun e w' => (∃ A1 c1 A2 c2, e = .returned (.tuple #[.slice A1 (halfP n.prs).1.length c1, .slice A2 (halfP n.prs).2.1.length c2, .string (halfP n.prs).2.2.1, .bool (halfP n.prs).2.2.2]) ∧ P3 w' w.heap.size A1 c1 (halfP n.prs).1 ∧ P3 w' w.heap.size A2 c2 (halfP n.prs).2.1) ∧ Below w.heap.size w w') := fun w hb => Lf.Halve_any (c := a.qc) (h.kept hb).prs (fun x hx => Nat.le_trans (hf.qk x hx) (by decide)) (prise_iff.1 (hr.1 hl).rise) (Nat.le_trans hf.prs (by decide))
    clear h hr hf
    obtain ⟨lv, K, P, B, Q⟩ := n
    obtain ⟨kA, kc, pA, pc, bA, bc, qA, qc⟩ := a
    unfold ndCs
    simp only at *
    subst hl
    obtain ⟨H, hH⟩ : ∃ H, H = halfP Q := ⟨_, rfl⟩
    rw [← hH] at cH ⊢
    clear hH
    obtain ⟨L1, L2, pv, ok⟩ := H
    simp only at cH ⊢
    generalize K.length = kn at *
    generalize P.length = pn at *
    generalize B.length = bn at *
    generalize Q.length = qn at *
    generalize hl1 : L1.length = n1 at *
    generalize hl2 : L2.length = n2 at *
    have HL1 := Lib.hid hl1
    have HL2 := Lib.hid hl2
    clear hl1 hl2
    go_enter Try.func10, Try.ntmps10
    go_upto_region 1 with fail
    have HB := Lib.hid (B3.new W (.cells #[.int .i64 0, .slice kA kn kc, .slice pA pn pc, .slice bA bn bc, .slice qA qn qc] 31) (.cells #[.int .i64 0, .slice none 0 0, .slice none 0 0, .slice none 0 0, .slice none 0 0] 31) (.cells #[.int .i64 0, .slice none 0 0, .slice none 0 0, .slice none 0 0, .slice none 0 0] 31))
    generalize ((W.alloc (.cells #[.int .i64 0, .slice kA kn kc, .slice pA pn pc, .slice bA bn bc, .slice qA qn qc] 31)).alloc (.cells #[.int .i64 0, .slice none 0 0, .slice none 0 0, .slice none 0 0, .slice none 0 0] 31)).alloc (.cells #[.int .i64 0, .slice none 0 0, .slice none 0 0, .slice none 0 0, .slice none 0 0] 31) = w1 at *
    obtain ⟨g, hg⟩ : ∃ g, g = W.heap.size := ⟨_, rfl⟩
    rw [← hg] at HB
    simp only [← hg]
    clear hg
    obtain ⟨d0, d1, d2, d3, d4⟩ := box5 HB.out.x
    go_upto_region 2 with (go_at_call 22; refine (isLeaf_any _ _ _ _ _ _ _ _ _ _ _ _ _ _).mono ?_; rintro e w2 ⟨rfl, hb⟩; replace HB := Lib.hid (HB.out.kept hb); clear hb d0 d1 d2 d3 d4; obtain ⟨d0, d1, d2, d3, d4⟩ := box5 HB.out.x)
    have y0 := free5 HB.out.y 0; have y1 := free5 HB.out.y 1; have y2 := free5 HB.out.y 2; have y3 := free5 HB.out.y 3; have y4 := free5 HB.out.y 4
    obtain ⟨s0, s1, s2, s3, s4⟩ := box5 HB.out.y
    have x0 := free5 HB.out.z 0; have x1 := free5 HB.out.z 1; have x2 := free5 HB.out.z 2; have x3 := free5 HB.out.z 3; have x4 := free5 HB.out.z 4
    obtain ⟨u0, u1, u2, u3, u4⟩ := box5 HB.out.z
    go_upto_region 3 with (go_at_call 23; refine (cH _ HB.out.below).out.mono ?_; rintro e w3 ⟨⟨A1, c1, A2, c2, rfl, hv1, hv2⟩, hb⟩; have HV1 := Lib.hid (hv1.mono HB.out.lt); have HV2 := Lib.hid (hv2.mono HB.out.lt); replace HB := Lib.hid (HB.out.kept hb); clear hv1 hv2 hb d0 d1 d2 d3 d4; clear y0 y1 y2 y3 y4 s0 s1 s2 s3 s4; clear x0 x1 x2 x3 x4 u0 u1 u2 u3 u4; have y0 := free5 HB.out.y 0; have y1 := free5 HB.out.y 1; have y2 := free5 HB.out.y 2; have y3 := free5 HB.out.y 3; have y4 := free5 HB.out.y 4; obtain ⟨s0, s1, s2, s3, s4⟩ := box5 HB.out.y; have x0 := free5 HB.out.z 0; have x1 := free5 HB.out.z 1; have x2 := free5 HB.out.z 2; have x3 := free5 HB.out.z 3; have x4 := free5 HB.out.z 4; obtain ⟨u0, u1, u2, u3, u4⟩ := box5 HB.out.z)
    clear y0 y1 y2 y3 y4 s0 s1 s2 s3 s4
    clear x0 x1 x2 x3 x4 u0 u1 u2 u3 u4
    have HI4 := Lib.hid (into_one w3 (g + 1) 4 (.slice A1 n1 c1))
    have HI5 := Lib.hid (into_one (w3.setCell ⟨g + 1, 4, none⟩ (.slice A1 n1 c1)) (g + 1 + 1) 4 (.slice A2 n2 c2))
    replace HV1 := Lib.hid (vk_set (vk_set HV1.out HI4.out (by omega)) HI5.out (by omega))
    replace HV2 := Lib.hid (vk_set (vk_set HV2.out HI4.out (by omega)) HI5.out (by omega))
    replace HB := Lib.hid ((HB.out.sety4 (.slice A1 n1 c1)).setz4 (.slice A2 n2 c2))
    clear HI4 HI5
    generalize (w3.setCell ⟨g + 1, 4, none⟩ (.slice A1 n1 c1)).setCell ⟨g + 1 + 1, 4, none⟩ (.slice A2 n2 c2) = w10 at *
    obtain ⟨s0, s1, s2, s3, s4⟩ := box5 HB.out.y
    obtain ⟨u0, u1, u2, u3, u4⟩ := box5 HB.out.z
    have m0 := fun q : Drift.Tide [] w10 [] => Drift.Tide.cell s0 (by simp) q; have m1 := fun q : Drift.Tide [] w10 [] => Drift.Tide.cell s1 (by simp) q; have m2 := fun q : Drift.Tide [] w10 [] => Drift.Tide.cell s2 (by simp) q; have m3 := fun q : Drift.Tide [] w10 [] => Drift.Tide.cell s3 (by simp) q; have m4 := fun q : Drift.Tide [] w10 [] => Drift.Tide.cell s4 (by simp) q
    have n0 := fun q : Drift.Tide [] w10 [] => Drift.Tide.cell u0 (by simp) q; have n1 := fun q : Drift.Tide [] w10 [] => Drift.Tide.cell u1 (by simp) q; have n2 := fun q : Drift.Tide [] w10 [] => Drift.Tide.cell u2 (by simp) q; have n3 := fun q : Drift.Tide [] w10 [] => Drift.Tide.cell u3 (by simp) q; have n4 := fun q : Drift.Tide [] w10 [] => Drift.Tide.cell u4 (by simp) q
    clear s0 s1 s2 s3 s4 u0 u1 u2 u3 u4
    have HBK := Lib.hid HB.out
    refine Drift.wp_region_drift [] [(0,[]),(1,[]),(2,[]),(3,[]),(4,[]),(5,[]),(6,[]),(7,[])] [4, 5] [] (by kernel_rfl) (by kernel_rfl) (by simp) ?_
    simp only [Drift.pick, Drift.opsAt, List.getElem?_toArray, List.getElem?_cons_zero, List.getElem?_cons_succ, List.cons_append, List.nil_append, List.filterMap_nil]
    repeat (refine Drift.walk_step (fun K hK => ?_); go_simp; (refine hK _ ?_; clear hK K))
    refine Drift.walk_event rfl Drift.mkwalk_nil (EvSame w10) (fun W2 hk _ => ?_) (fun v w11 hv hI _ hTd11 => ?_)
    · have HE := Lib.hid (set5_same (HBK.out.kept hk).y)
      obtain ⟨e0, e1, e2, e3, e4⟩ := box5 (HBK.out.kept hk).y
      have f0 := free5 (HBK.out.kept hk).y 0
      have f1 := free5 (HBK.out.kept hk).y 1
      have f2 := free5 (HBK.out.kept hk).y 2
      have f3 := free5 (HBK.out.kept hk).y 3
      have f4 := free5 (HBK.out.kept hk).y 4
      go_simp
      unfold set5 at HE
      rw [HE.out]
      exact ⟨⟨rfl, hk⟩, Flow.Into.refl _ _⟩
    obtain ⟨rfl, hv11⟩ := hv
    replace HBK := Lib.hid (HBK.out.kept hv11)
    refine Drift.walk_event rfl Drift.mkwalk_nil (EvSame w11) (fun W2 hk _ => ?_) (fun v w12 hv hI _ hTd12 => ?_)
    · have HE := Lib.hid (set5_same (HBK.out.kept hk).z)
      obtain ⟨e0, e1, e2, e3, e4⟩ := box5 (HBK.out.kept hk).z
      have f0 := free5 (HBK.out.kept hk).z 0
      have f1 := free5 (HBK.out.kept hk).z 1
      have f2 := free5 (HBK.out.kept hk).z 2
      have f3 := free5 (HBK.out.kept hk).z 3
      have f4 := free5 (HBK.out.kept hk).z 4
      go_simp
      unfold set5 at HE
      rw [HE.out]
      exact ⟨⟨rfl, hk⟩, Flow.Into.refl _ _⟩
    obtain ⟨rfl, hv12⟩ := hv
    repeat (refine Drift.walk_step (fun K hK => ?_); go_simp; (refine hK _ ?_; clear hK K))
    refine Drift.walk_nil ?_
    intro w13 hb13 _
    have HBF : Hid (Below w10.heap.size w10 w13) := hv11.trans ((hv12.mono hv11.size).trans (hb13.mono (Nat.le_trans hv11.size hv12.size)))
    replace HV1 := Lib.hid (HV1.out.kept HBF.out)
    replace HV2 := Lib.hid (HV2.out.kept HBF.out)
    replace HB := Lib.hid (HB.out.kept HBF.out)
    clear HBK HBF hv11 hv12 hb13 m0 m1 m2 m3 m4 n0 n1 n2 n3 n4 hTd11 hTd12
    simp only [List.length_cons, List.length_nil, List.drop_succ_cons, List.drop_zero, Nat.zero_add, Nat.reduceAdd]
    obtain ⟨s0, s1, s2, s3, s4⟩ := box5 HB.out.y
    obtain ⟨u0, u1, u2, u3, u4⟩ := box5 HB.out.z
    go_wp2_with fail
    refine bodyPost_ret (v := .tuple #[.agg #[.int .i64 0, .slice none 0 0, .slice none 0 0, .slice none 0 0, .slice A1 n1 c1], .agg #[.int .i64 0, .slice none 0 0, .slice none 0 0, .slice none 0 0, .slice A2 n2 c2], .string pv, .bool ok]) (by simp [results, Try.results10, go_sem, s0, s1, s2, s3, s4, u0, u1, u2, u3, u4]) rfl ⟨⟨_, rfl, ⟨none, 0, none, 0, none, 0, A1, c1⟩, ⟨none, 0, none, 0, none, 0, A2, c2⟩, ?_, ⟨VK.nil _ _, VK.nil _ _, VK.nil _ _, HV1.out.mono (show W.heap.size ≤ g + 1 + 1 + 1 from Nat.le_trans HB.out.at_ (by omega))⟩, ⟨VK.nil _ _, VK.nil _ _, VK.nil _ _, HV2.out.mono (show W.heap.size ≤ g + 1 + 1 + 1 from Nat.le_trans HB.out.at_ (by omega))⟩⟩, HB.out.below⟩
    simp only [ndCs, HL1.out, HL2.out, List.length_nil]
  · have cH : ∀ w, Below W.heap.size W w → Hid (Calls Try.prog 24 #[.agg (ndCs n a)] w fun e w' => (∃ v, e = .returned v ∧ EvHalve w.heap.size (halfN n) v w') ∧ Below w.heap.size w w') := fun w hb => by
      rcases Nat.lt_or_ge n.kids.length 2 with h2 | h2
      · exact halveKids_few a hl h2
      · exact halveKids_some (h.kept hb) (hr.2 hl).2 hf hl h2
    have hl' := hl
    clear h hr hf
    obtain ⟨lv, K, P, B, Q⟩ := n
    obtain ⟨kA, kc, pA, pc, bA, bc, qA, qc⟩ := a
    obtain ⟨H, hH⟩ : ∃ H, H = halfN ⟨lv, K, P, B, Q⟩ := ⟨_, rfl⟩
    rw [← hH] at cH ⊢
    clear hH
    unfold ndCs at cH ⊢
    simp only at *
    have hd : decide (lv = 0) = false := by simpa using hl'
    clear hl hl'
    generalize K.length = kn at *
    generalize P.length = pn at *
    generalize B.length = bn at *
    generalize Q.length = qn at *
    go_enter Try.func10, Try.ntmps10
    go_upto_region 1 with fail
    have HB := Lib.hid (B3.new W (.cells #[.int .i64 lv, .slice kA kn kc, .slice pA pn pc, .slice bA bn bc, .slice qA qn qc] 31) (.cells #[.int .i64 0, .slice none 0 0, .slice none 0 0, .slice none 0 0, .slice none 0 0] 31) (.cells #[.int .i64 0, .slice none 0 0, .slice none 0 0, .slice none 0 0, .slice none 0 0] 31))
    generalize ((W.alloc (.cells #[.int .i64 lv, .slice kA kn kc, .slice pA pn pc, .slice bA bn bc, .slice qA qn qc] 31)).alloc (.cells #[.int .i64 0, .slice none 0 0, .slice none 0 0, .slice none 0 0, .slice none 0 0] 31)).alloc (.cells #[.int .i64 0, .slice none 0 0, .slice none 0 0, .slice none 0 0, .slice none 0 0] 31) = w1 at *
    obtain ⟨g, hg⟩ : ∃ g, g = W.heap.size := ⟨_, rfl⟩
    rw [← hg] at HB
    simp only [← hg]
    clear hg
    obtain ⟨d0, d1, d2, d3, d4⟩ := box5 HB.out.x
    have y0 := free5 HB.out.y 0; have y1 := free5 HB.out.y 1; have y2 := free5 HB.out.y 2; have y3 := free5 HB.out.y 3; have y4 := free5 HB.out.y 4
    obtain ⟨s0, s1, s2, s3, s4⟩ := box5 HB.out.y
    have x0 := free5 HB.out.z 0; have x1 := free5 HB.out.z 1; have x2 := free5 HB.out.z 2; have x3 := free5 HB.out.z 3; have x4 := free5 HB.out.z 4
    obtain ⟨u0, u1, u2, u3, u4⟩ := box5 HB.out.z
    go_upto_region 4 with (go_at_call 22; refine (isLeaf_any _ _ _ _ _ _ _ _ _ _ _ _ _ _).mono ?_; rintro e w2 ⟨rfl, hb⟩; replace HB := Lib.hid (HB.out.kept hb); clear hb d0 d1 d2 d3 d4; clear y0 y1 y2 y3 y4 s0 s1 s2 s3 s4; clear x0 x1 x2 x3 x4 u0 u1 u2 u3 u4; obtain ⟨d0, d1, d2, d3, d4⟩ := box5 HB.out.x; have y0 := free5 HB.out.y 0; have y1 := free5 HB.out.y 1; have y2 := free5 HB.out.y 2; have y3 := free5 HB.out.y 3; have y4 := free5 HB.out.y 4; obtain ⟨s0, s1, s2, s3, s4⟩ := box5 HB.out.y; have x0 := free5 HB.out.z 0; have x1 := free5 HB.out.z 1; have x2 := free5 HB.out.z 2; have x3 := free5 HB.out.z 3; have x4 := free5 HB.out.z 4; obtain ⟨u0, u1, u2, u3, u4⟩ := box5 HB.out.z)
    obtain ⟨⟨l1, K1, P1, B1, Q1⟩, ⟨l2, K2, P2, B2, Q2⟩, pv, ok⟩ := H
    go_wp2_with (go_at_call 24; refine (cH _ HB.out.below).out.mono ?_; rintro e w3 ⟨⟨v, rfl, z1, z2, rfl, hz1, hz2⟩, hb⟩; have HZ1 := Lib.hid (hz1.mono HB.out.lt); have HZ2 := Lib.hid (hz2.mono HB.out.lt); replace HB := Lib.hid (HB.out.kept hb); clear hz1 hz2 hb d0 d1 d2 d3 d4; clear y0 y1 y2 y3 y4 s0 s1 s2 s3 s4; clear x0 x1 x2 x3 x4 u0 u1 u2 u3 u4; have y0 := free5 HB.out.y 0; have y1 := free5 HB.out.y 1; have y2 := free5 HB.out.y 2; have y3 := free5 HB.out.y 3; have y4 := free5 HB.out.y 4; obtain ⟨s0, s1, s2, s3, s4⟩ := box5 HB.out.y; have x0 := free5 HB.out.z 0; have x1 := free5 HB.out.z 1; have x2 := free5 HB.out.z 2; have x3 := free5 HB.out.z 3; have x4 := free5 HB.out.z 4; obtain ⟨u0, u1, u2, u3, u4⟩ := box5 HB.out.z; obtain ⟨a0, a1, a2, a3, a4, a5, a6, a7⟩ := z1; obtain ⟨b0, b1, b2, b3, b4, b5, b6, b7⟩ := z2; simp only [ndCs])
    clear y0 y1 y2 y3 y4 s0 s1 s2 s3 s4
    clear x0 x1 x2 x3 x4 u0 u1 u2 u3 u4
    have HI1 := Lib.hid (into_set5 w3 (g + 1) (.int .i64 l1) (.slice a0 K1.length a1) (.slice a2 P1.length a3) (.slice a4 B1.length a5) (.slice a6 Q1.length a7))
    have HI2 := Lib.hid (into_set5 (set5 w3 (g + 1) (.int .i64 l1) (.slice a0 K1.length a1) (.slice a2 P1.length a3) (.slice a4 B1.length a5) (.slice a6 Q1.length a7)) (g + 1 + 1) (.int .i64 l2) (.slice b0 K2.length b1) (.slice b2 P2.length b3) (.slice b4 B2.length b5) (.slice b6 Q2.length b7))
    replace HZ1 := Lib.hid (nd_set (nd_set HZ1.out HI1.out (by omega)) HI2.out (by omega))
    replace HZ2 := Lib.hid (nd_set (nd_set HZ2.out HI1.out (by omega)) HI2.out (by omega))
    replace HB := Lib.hid ((HB.out.set5y (.int .i64 l1) (.slice a0 K1.length a1) (.slice a2 P1.length a3) (.slice a4 B1.length a5) (.slice a6 Q1.length a7)).set5z (.int .i64 l2) (.slice b0 K2.length b1) (.slice b2 P2.length b3) (.slice b4 B2.length b5) (.slice b6 Q2.length b7))
    clear HI1 HI2
    unfold set5 at HZ1 HZ2 HB
    generalize (((((((((w3.setCell ⟨g + 1, 0, none⟩ (.int .i64 l1)).setCell ⟨g + 1, 1, none⟩ (.slice a0 K1.length a1)).setCell ⟨g + 1, 2, none⟩ (.slice a2 P1.length a3)).setCell ⟨g + 1, 3, none⟩ (.slice a4 B1.length a5)).setCell ⟨g + 1, 4, none⟩ (.slice a6 Q1.length a7)).setCell ⟨g + 1 + 1, 0, none⟩ (.int .i64 l2)).setCell ⟨g + 1 + 1, 1, none⟩ (.slice b0 K2.length b1)).setCell ⟨g + 1 + 1, 2, none⟩ (.slice b2 P2.length b3)).setCell ⟨g + 1 + 1, 3, none⟩ (.slice b4 B2.length b5)).setCell ⟨g + 1 + 1, 4, none⟩ (.slice b6 Q2.length b7) = w4 at *
    obtain ⟨s0, s1, s2, s3, s4⟩ := box5 HB.out.y
    obtain ⟨u0, u1, u2, u3, u4⟩ := box5 HB.out.z
    exact bodyPost_ret (v := .tuple #[.agg #[.int .i64 l1, .slice a0 K1.length a1, .slice a2 P1.length a3, .slice a4 B1.length a5, .slice a6 Q1.length a7], .agg #[.int .i64 l2, .slice b0 K2.length b1, .slice b2 P2.length b3, .slice b4 B2.length b5, .slice b6 Q2.length b7], .string pv, .bool ok]) (by simp [results, Try.results10, go_sem, s0, s1, s2, s3, s4, u0, u1, u2, u3, u4]) rfl ⟨⟨_, rfl, ⟨a0, a1, a2, a3, a4, a5, a6, a7⟩, ⟨b0, b1, b2, b3, b4, b5, b6, b7⟩, rfl, HZ1.out.mono (show W.heap.size ≤ g + 1 + 1 + 1 from Nat.le_trans HB.out.at_ (by omega)), HZ2.out.mono (show W.heap.size ≤ g + 1 + 1 + 1 from Nat.le_trans HB.out.at_ (by omega))⟩, HB.out.below⟩
end No
end Go.Proofs.Ytohnllclkpflaaa
