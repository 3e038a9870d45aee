/-
  CleaveC2. Put together by pack.py.
-/
import Derived.Test.YtohnllclkpflaaaPkAI
import Derived.Test.YtohnllclkpflaaaPkAJ

namespace Go.Proofs.Ytohnllclkpflaaa
open Go.RowKit
namespace No
open Mem Lx Bu Lf Fa
theorem NdIn.zero (w : World) : NdIn w zeroN ⟨none, 0, none, 0, none, 0, none, 0⟩ := ⟨RC.nil _ _ _, RC.nil _ _ _, RC.nil _ _ _, RC.nil _ _ _⟩
/-- what Join tells -/
def EvJoin (r : Nd × Bool) (v : Value) (w : World) : Prop := ∃ z, v = .tuple #[.agg (ndCs r.1 z), .bool r.2] ∧ NdIn w r.1 z
set_option maxRecDepth 100000 in
set_option maxHeartbeats 8000000 in
theorem Join_any {W : World} {a b : Nd} {x y : At} (p : ByteArray) (ha : NdIn W a x) (hb : NdIn W b y) (fa : Fit a) (fb : Fit b) (ma : Form a) (mb : Form b) : Calls Try.prog 14 #[.agg (ndCs a x), .string p, .agg (ndCs b y)] W fun e w' => (∃ v, e = .returned v ∧ EvJoin (joinN a p b) v w') ∧ Below W.heap.size W w' := by
  have k1 := fa.kids
  have k2 := fa.piv
  have k3 := fa.buf
  have k4 := fa.prs
  have l1 := fb.kids
  have l2 := fb.piv
  have l3 := fb.buf
  have l4 := fb.prs
  have HA := Lib.hid ha
  have HA' := Lib.hid hb
  clear fa fb ha hb
  obtain ⟨lv, K, P, B, Q⟩ := a
  obtain ⟨lv', K', P', B', Q'⟩ := b
  obtain ⟨kA, kc, pA, pc, bA, bc, qA, qc⟩ := x
  obtain ⟨kA', kc', pA', pc', bA', bc', qA', qc'⟩ := y
  by_cases hl : lv = lv'
  case neg =>
    have hd : (lv != lv') = true := by simpa using hl
    have HJ : Hid (joinN ⟨lv, K, P, B, Q⟩ p ⟨lv', K', P', B', Q'⟩ = (zeroN, false)) := if_pos hl
    generalize joinN ⟨lv, K, P, B, Q⟩ p ⟨lv', K', P', B', Q'⟩ = J at *
    unfold ndCs
    simp only at *
    generalize K.length = kn at *
    generalize P.length = pn at *
    generalize B.length = bn at *
    generalize Q.length = qn at *
    generalize K'.length = kn' at *
    generalize P'.length = pn' at *
    generalize B'.length = bn' at *
    generalize Q'.length = qn' at *
    clear hl HA HA' ma mb k1 k2 k3 k4 l1 l2 l3 l4
    go_enter Try.func14, Try.ntmps14
    go_upto_region 1 with fail
    have HB := Lib.hid (B3.new W (.cells #[.int .i64 lv, .slice kA kn kc, .slice pA pn pc, .slice bA bn bc, .slice qA qn qc] 31) (.cells #[.int .i64 lv', .slice kA' kn' kc', .slice pA' pn' pc', .slice bA' bn' bc', .slice qA' qn' qc'] 31) (.cells #[.int .i64 0, .slice none 0 0, .slice none 0 0, .slice none 0 0, .slice none 0 0] 31))
    generalize ((W.alloc (.cells #[.int .i64 lv, .slice kA kn kc, .slice pA pn pc, .slice bA bn bc, .slice qA qn qc] 31)).alloc (.cells #[.int .i64 lv', .slice kA' kn' kc', .slice pA' pn' pc', .slice bA' bn' bc', .slice qA' qn' qc'] 31)).alloc (.cells #[.int .i64 0, .slice none 0 0, .slice none 0 0, .slice none 0 0, .slice none 0 0] 31) = w1 at *
    obtain ⟨g, hg⟩ : ∃ g, g = W.heap.size := ⟨_, rfl⟩
    rw [← hg] at HB
    simp only [← hg]
    clear hg
    obtain ⟨d0, d1, d2, d3, d4⟩ := box5 HB.out.x
    obtain ⟨e0, e1, e2, e3, e4⟩ := box5 HB.out.y
    obtain ⟨u0, u1, u2, u3, u4⟩ := box5 HB.out.z
    have f0 := free5 HB.out.z 0; have f1 := free5 HB.out.z 1; have f2 := free5 HB.out.z 2; have f3 := free5 HB.out.z 3; have f4 := free5 HB.out.z 4
    go_wp2_with fail
    have HU := Lib.hid (set5_at HB.out.z (.int .i64 0) (.slice none 0 0) (.slice none 0 0) (.slice none 0 0) (.slice none 0 0))
    have HI5 := Lib.hid (into_set5 w1 (g + 1 + 1) (.int .i64 0) (.slice none 0 0) (.slice none 0 0) (.slice none 0 0) (.slice none 0 0))
    have HBW := Lib.hid (set5_below HB.out.below (show W.heap.size ≤ g + 1 + 1 from Nat.le_trans HB.out.at_ (by omega)) (.int .i64 0) (.slice none 0 0) (.slice none 0 0) (.slice none 0 0) (.slice none 0 0))
    unfold set5 at HU HBW HI5
    clear u0 u1 u2 u3 u4 f0 f1 f2 f3 f4
    generalize ((((w1.setCell ⟨g + 1 + 1, 0, none⟩ (.int .i64 0)).setCell ⟨g + 1 + 1, 1, none⟩ (.slice none 0 0)).setCell ⟨g + 1 + 1, 2, none⟩ (.slice none 0 0)).setCell ⟨g + 1 + 1, 3, none⟩ (.slice none 0 0)).setCell ⟨g + 1 + 1, 4, none⟩ (.slice none 0 0) = w9 at *
    obtain ⟨u0, u1, u2, u3, u4⟩ := box5 HU.out
    refine bodyPost_ret (v := .tuple #[.agg #[.int .i64 0, .slice none 0 0, .slice none 0 0, .slice none 0 0, .slice none 0 0], .bool false]) (by simp [results, Try.results14, go_sem, u0, u1, u2, u3, u4]) rfl ⟨⟨_, rfl, ?_⟩, HBW.out⟩
    rw [HJ.out]
    exact ⟨_, rfl, NdIn.zero _⟩
  subst hl
  by_cases h0 : lv = 0
  · subst h0
    obtain ⟨rfl, rfl, rfl⟩ : K = [] ∧ P = [] ∧ B = [] := ma.leaf rfl
    obtain ⟨rfl, rfl, rfl⟩ : K' = [] ∧ P' = [] ∧ B' = [] := mb.leaf rfl
    have HJ : Hid (joinN ⟨0, [], [], [], Q⟩ p ⟨0, [], [], [], Q'⟩ = (⟨0, [], [], [], Q ++ Q'⟩, true)) := by
      unfold Hid joinN
      simp
    generalize joinN ⟨0, [], [], [], Q⟩ p ⟨0, [], [], [], Q'⟩ = J at *
    unfold ndCs
    simp only [List.length_nil] at *
    obtain ⟨m, hm⟩ : ∃ m, m = Q.length + Q'.length := ⟨_, rfl⟩
    have HM : Hid ((Q ++ Q').length = m) := by unfold Hid; rw [List.length_append, hm]
    have hm2 : m ≤ 300 := by omega
    generalize hqn : Q.length = qn at *
    generalize hqn' : Q'.length = qn' at *
    have HQ := Lib.hid hqn
    have HQ' := Lib.hid hqn'
    clear ma mb k1 k2 k3 k4 l1 l2 l3 l4 hm hqn hqn'
    go_enter Try.func14, Try.ntmps14
    go_upto_region 1 with fail
    have HB := Lib.hid (B3.new W (.cells #[.int .i64 0, .slice kA 0 kc, .slice pA 0 pc, .slice bA 0 bc, .slice qA qn qc] 31) (.cells #[.int .i64 0, .slice kA' 0 kc', .slice pA' 0 pc', .slice bA' 0 bc', .slice qA' qn' qc'] 31) (.cells #[.int .i64 0, .slice none 0 0, .slice none 0 0, .slice none 0 0, .slice none 0 0] 31))
    generalize ((W.alloc (.cells #[.int .i64 0, .slice kA 0 kc, .slice pA 0 pc, .slice bA 0 bc, .slice qA qn qc] 31)).alloc (.cells #[.int .i64 0, .slice kA' 0 kc', .slice pA' 0 pc', .slice bA' 0 bc', .slice qA' qn' qc'] 31)).alloc (.cells #[.int .i64 0, .slice none 0 0, .slice none 0 0, .slice none 0 0, .slice none 0 0] 31) = w1 at *
    obtain ⟨g, hg⟩ : ∃ g, g = W.heap.size := ⟨_, rfl⟩
    rw [← hg] at HB
    simp only [← hg]
    clear hg
    obtain ⟨d0, d1, d2, d3, d4⟩ := box5 HB.out.x
    obtain ⟨e0, e1, e2, e3, e4⟩ := box5 HB.out.y
    obtain ⟨u0, u1, u2, u3, u4⟩ := box5 HB.out.z
    have f0 := free5 HB.out.z 0; have f1 := free5 HB.out.z 1; have f2 := free5 HB.out.z 2; have f3 := free5 HB.out.z 3; have f4 := free5 HB.out.z 4
    go_upto_region 4 with (go_at_call 22; refine (isLeaf_any _ _ _ _ _ _ _ _ _ _ _ _ _ _).mono ?_; rintro e w2 ⟨rfl, hb⟩; replace HB := Lib.hid (HB.out.kept hb); clear hb d0 d1 d2 d3 d4 e0 e1 e2 e3 e4 u0 u1 u2 u3 u4 f0 f1 f2 f3 f4; obtain ⟨d0, d1, d2, d3, d4⟩ := box5 HB.out.x; obtain ⟨e0, e1, e2, e3, e4⟩ := box5 HB.out.y)
    have hx5 := heap_alloc_new w2 (.cells #[.slice qA qn qc, .slice qA' qn' qc'] 29)
    have hb5 : Below w2.heap.size w2 (w2.alloc (.cells #[.slice qA qn qc, .slice qA' qn' qc'] 29)) := (Below.refl _ _).alloc (Nat.le_refl _) _
    have HB5 := Lib.hid (HB.out.kept hb5)
    have cC := Lib.hid (Lf.concatP2 (cx := 2) (X := Q ++ Q') (N := m) hx5 HQ.out HQ'.out ((HA.out.kept HB5.out.below).prs.1) ((HA'.out.kept HB5.out.below).prs.1) rfl HM.out (by omega))
    clear hx5 hb5 HB hm2
    go_wp2_with (go_at_call 30; refine cC.out.mono ?_; rintro e w3 ⟨⟨v, rfl, A3, c3, rfl, hv⟩, hb3⟩; have HV := Lib.hid hv; have HB := Lib.hid (HB5.out.kept hb3); clear hb3 hv d0 d1 d2 d3 d4 e0 e1 e2 e3 e4; have f0 := free5 HB.out.z 0; have f1 := free5 HB.out.z 1; have f2 := free5 HB.out.z 2; have f3 := free5 HB.out.z 3; have f4 := free5 HB.out.z 4; obtain ⟨u0, u1, u2, u3, u4⟩ := box5 HB.out.z)
    have HU := Lib.hid (set5_at HB.out.z (.int .i64 0) (.slice none 0 0) (.slice none 0 0) (.slice none 0 0) (.slice A3 m c3))
    have HI5 := Lib.hid (into_set5 w3 (g + 1 + 1) (.int .i64 0) (.slice none 0 0) (.slice none 0 0) (.slice none 0 0) (.slice A3 m c3))
    have HBW := Lib.hid (set5_below HB.out.below (show W.heap.size ≤ g + 1 + 1 from Nat.le_trans HB.out.at_ (by omega)) (.int .i64 0) (.slice none 0 0) (.slice none 0 0) (.slice none 0 0) (.slice A3 m c3))
    unfold set5 at HU HBW HI5
    have HV5 := Lib.hid (HV.out.into HI5.out (fun a ha hn => by have h1 := (HV.out.at_ a ha).1; have h2 := (Array.getElem?_eq_some_iff.1 HB5.out.z).1; have h3 : a.block = g + 1 + 1 := (by simpa using hn); omega))
    clear u0 u1 u2 u3 u4 f0 f1 f2 f3 f4
    generalize ((((w3.setCell ⟨g + 1 + 1, 0, none⟩ (.int .i64 0)).setCell ⟨g + 1 + 1, 1, none⟩ (.slice none 0 0)).setCell ⟨g + 1 + 1, 2, none⟩ (.slice none 0 0)).setCell ⟨g + 1 + 1, 3, none⟩ (.slice none 0 0)).setCell ⟨g + 1 + 1, 4, none⟩ (.slice A3 m c3) = w9 at *
    obtain ⟨u0, u1, u2, u3, u4⟩ := box5 HU.out
    refine bodyPost_ret (v := .tuple #[.agg #[.int .i64 0, .slice none 0 0, .slice none 0 0, .slice none 0 0, .slice A3 m c3], .bool true]) (by simp [results, Try.results14, go_sem, u0, u1, u2, u3, u4]) rfl ⟨⟨_, rfl, ?_⟩, HBW.out⟩
    rw [HJ.out]
    exact ⟨⟨none, 0, none, 0, none, 0, A3, c3⟩, by rw [← HM.out]; rfl, ⟨RC.nil _ _ _, RC.nil _ _ _, RC.nil _ _ _, HV5.out.rc⟩⟩
  · have h0' : 0 < lv := (ma.inner h0).1
    obtain rfl : Q = [] := (ma.inner h0).2
    obtain rfl : Q' = [] := (mb.inner h0).2
    have HJ : Hid (joinN ⟨lv, K, P, B, []⟩ p ⟨lv, K', P', B', []⟩ = (⟨lv, K ++ K', P ++ [p] ++ P', B ++ B', []⟩, true)) := by
      unfold Hid joinN
      simp [h0']
    obtain ⟨XP, hXP⟩ : ∃ X, X = P ++ [p] ++ P' := ⟨_, rfl⟩
    have HXP : Hid (P ++ [p] ++ P' = XP) := hXP.symm
    rw [← hXP] at HJ
    generalize joinN ⟨lv, K, P, B, []⟩ p ⟨lv, K', P', B', []⟩ = J at *
    unfold ndCs
    simp only [List.length_nil] at *
    obtain ⟨mk, hmk⟩ : ∃ m, m = K.length + K'.length := ⟨_, rfl⟩
    have HMK : Hid ((K ++ K').length = mk) := by unfold Hid; rw [List.length_append, hmk]
    obtain ⟨mp, hmp⟩ : ∃ m, m = P.length + 1 + P'.length := ⟨_, rfl⟩
    have HMP : Hid (XP.length = mp) := by unfold Hid; rw [hXP, List.length_append, List.length_append, hmp]; rfl
    obtain ⟨mm, hmb⟩ : ∃ m, m = B.length + B'.length := ⟨_, rfl⟩
    have HMB : Hid ((B ++ B').length = mm) := by unfold Hid; rw [List.length_append, hmb]
    have hmk2 : mk ≤ 300 := by omega
    have hmp2 : mp ≤ 301 := by omega
    have hmb2 : mm ≤ 300 := by omega
    have HL := Lib.hid (⟨hmk2, hmp2, hmb2⟩ : mk ≤ 300 ∧ mp ≤ 301 ∧ mm ≤ 300)
    generalize hkn : K.length = kn at *
    generalize hkn' : K'.length = kn' at *
    generalize hpn : P.length = pn at *
    generalize hpn' : P'.length = pn' at *
    generalize hbn : B.length = bn at *
    generalize hbn' : B'.length = bn' at *
    have HKN := Lib.hid hkn
    have HKN' := Lib.hid hkn'
    have HPN := Lib.hid hpn
    have HPN' := Lib.hid hpn'
    have HBN := Lib.hid hbn
    have HBN' := Lib.hid hbn'
    have hd0 : decide (lv = 0) = false := by simpa using h0
    clear hXP ma mb k1 k2 k3 k4 l1 l2 l3 l4 hkn hkn' hpn hpn' hbn hbn' hmk hmp hmb hmk2 hmp2 hmb2 h0 h0'
    go_enter Try.func14, Try.ntmps14
    go_upto_region 1 with fail
    have HB := Lib.hid (B3.new W (.cells #[.int .i64 lv, .slice kA kn kc, .slice pA pn pc, .slice bA bn bc, .slice qA 0 qc] 31) (.cells #[.int .i64 lv, .slice kA' kn' kc', .slice pA' pn' pc', .slice bA' bn' bc', .slice qA' 0 qc'] 31) (.cells #[.int .i64 0, .slice none 0 0, .slice none 0 0, .slice none 0 0, .slice none 0 0] 31))
    generalize ((W.alloc (.cells #[.int .i64 lv, .slice kA kn kc, .slice pA pn pc, .slice bA bn bc, .slice qA 0 qc] 31)).alloc (.cells #[.int .i64 lv, .slice kA' kn' kc', .slice pA' pn' pc', .slice bA' bn' bc', .slice qA' 0 qc'] 31)).alloc (.cells #[.int .i64 0, .slice none 0 0, .slice none 0 0, .slice none 0 0, .slice none 0 0] 31) = w1 at *
    obtain ⟨g, hg⟩ : ∃ g, g = W.heap.size := ⟨_, rfl⟩
    rw [← hg] at HB
    simp only [← hg]
    clear hg
    obtain ⟨d0, d1, d2, d3, d4⟩ := box5 HB.out.x
    obtain ⟨e0, e1, e2, e3, e4⟩ := box5 HB.out.y
    obtain ⟨u0, u1, u2, u3, u4⟩ := box5 HB.out.z
    have f0 := free5 HB.out.z 0; have f1 := free5 HB.out.z 1; have f2 := free5 HB.out.z 2; have f3 := free5 HB.out.z 3; have f4 := free5 HB.out.z 4
    go_upto_region 5 with (go_at_call 22; refine (isLeaf_any _ _ _ _ _ _ _ _ _ _ _ _ _ _).mono ?_; rintro e w2 ⟨rfl, hb⟩; replace HB := Lib.hid (HB.out.kept hb); clear hb d0 d1 d2 d3 d4 e0 e1 e2 e3 e4 u0 u1 u2 u3 u4 f0 f1 f2 f3 f4)
    obtain ⟨d0, d1, d2, d3, d4⟩ := box5 HB.out.x
    obtain ⟨e0, e1, e2, e3, e4⟩ := box5 HB.out.y
    have z0 := fun q : Drift.Tide [] w2 [] => Drift.Tide.cell d0 (by simp) q
    have z1 := fun q : Drift.Tide [] w2 [] => Drift.Tide.cell d1 (by simp) q
    have z2 := fun q : Drift.Tide [] w2 [] => Drift.Tide.cell d2 (by simp) q
    have z3 := fun q : Drift.Tide [] w2 [] => Drift.Tide.cell d3 (by simp) q
    have x1 := fun q : Drift.Tide [] w2 [] => Drift.Tide.cell e1 (by simp) q
    have x2 := fun q : Drift.Tide [] w2 [] => Drift.Tide.cell e2 (by simp) q
    have x3 := fun q : Drift.Tide [] w2 [] => Drift.Tide.cell e3 (by simp) q
    clear d0 d1 d2 d3 d4 e0 e1 e2 e3 e4 hd0
    have HA2 := Lib.hid (HA.out.kept HB.out.below)
    have HA2' := Lib.hid (HA'.out.kept HB.out.below)
    refine Drift.wp_region_drift [] [(0,[]),(1,[]),(2,[]),(3,[]),(4,[]),(5,[]),(8,[]),(9,[]),(10,[]),(12,[]),(13,[]),(16,[]),(17,[]),(18,[]),(19,[]),(6,[11, 20, 14]),(7,[11, 20, 14]),(11,[20]),(14,[20]),(15,[20]),(20,[]),(21,[]),(22,[])] [7, 15, 21] [6, 11, 14, 20] (by kernel_rfl) (by kernel_rfl) (by simp) ?_
    simp only [Drift.pick, Drift.opsAt, List.getElem?_toArray, List.getElem?_cons_zero, List.getElem?_cons_succ, List.cons_append, List.nil_append, List.filterMap_cons, List.filterMap_nil]
    repeat (refine Drift.walk_step (fun K hK => ?_); go_simp; (refine hK _ ?_; clear hK K))
    refine Drift.walk_make rfl (Drift.mkwalk_one rfl (fun b => .slice (some ⟨b, 0, none⟩) 1 1) (.cells #[.string p] 9) (fun W => by go_simp) fun y1 _ => Drift.mkwalk_one rfl (fun b => .slice (some ⟨b, 0, none⟩) 2 2) (.cells #[.slice bA bn bc, .slice bA' bn' bc'] 28) (fun W => by go_simp) fun _ _ => Drift.mkwalk_one rfl (fun b => .slice (some ⟨b, 0, none⟩) 3 3) (.cells #[.slice pA pn pc, .slice (some ⟨y1, 0, none⟩) 1 1, .slice pA' pn' pc'] 27) (fun W => by go_simp) fun _ _ => Drift.mkwalk_nil) (fun b => .slice (some ⟨b, 0, none⟩) 2 2) (.cells #[.slice kA kn kc, .slice kA' kn' kc'] 26) (fun W => by go_simp) (fun b6 hb6 hT6 => ?_)
    refine Drift.walk_event rfl (Drift.mkwalk_one rfl (fun b => .slice (some ⟨b, 0, none⟩) 1 1) (.cells #[.string p] 9) (fun W => by go_simp) fun y1 _ => Drift.mkwalk_one rfl (fun b => .slice (some ⟨b, 0, none⟩) 2 2) (.cells #[.slice bA bn bc, .slice bA' bn' bc'] 28) (fun W => by go_simp) fun _ _ => Drift.mkwalk_one rfl (fun b => .slice (some ⟨b, 0, none⟩) 3 3) (.cells #[.slice pA pn pc, .slice (some ⟨y1, 0, none⟩) 1 1, .slice pA' pn' pc'] 27) (fun W => by go_simp) fun _ _ => Drift.mkwalk_nil) (EvRK KdK w2.heap.size mk (K ++ K')) (fun W2 hk hl2 => ?_) (fun v w5 hv hI _ hTd => ?_)
    · go_simp
      go_at_call 31
      refine (concatK2 (X := K ++ K') (hl2 (b6, .cells #[.slice kA kn kc, .slice kA' kn' kc'] 26) (by simp)) HKN.out HKN'.out (HA2.out.kept hk).kids.1 (HA2'.out.kept hk).kids.1 rfl HMK.out (by have := HL.out.1; omega)).mono ?_
      rintro e w' ⟨⟨v, rfl, A', c', rfl, hv⟩, hb⟩
      exact ⟨_, rfl, ⟨A', c', rfl, hv.mono hk.size⟩, Flow.Into.of_below hb⟩
    obtain ⟨A1, c1, rfl, hv⟩ := hv
    have HV1 := Lib.hid hv
    have HB5 : Hid (Below w2.heap.size w2 w5) := hI.below
    clear hv hI hT6
    refine Drift.walk_make rfl (Drift.mkwalk_one rfl (fun b => .slice (some ⟨b, 0, none⟩) 2 2) (.cells #[.slice bA bn bc, .slice bA' bn' bc'] 28) (fun W => by go_simp) fun _ _ => Drift.mkwalk_nil) (fun b => .slice (some ⟨b, 0, none⟩) 1 1) (.cells #[.string p] 9) (fun W => by go_simp) (fun b11 hb11 hT11 => ?_)
    refine Drift.walk_make rfl (Drift.mkwalk_one rfl (fun b => .slice (some ⟨b, 0, none⟩) 2 2) (.cells #[.slice bA bn bc, .slice bA' bn' bc'] 28) (fun W => by go_simp) fun _ _ => Drift.mkwalk_nil) (fun b => .slice (some ⟨b, 0, none⟩) 3 3) (.cells #[.slice pA pn pc, .slice (some ⟨b11, 0, none⟩) 1 1, .slice pA' pn' pc'] 27) (fun W => by go_simp) (fun b14 hb14 hT14 => ?_)
    refine Drift.walk_event rfl (Drift.mkwalk_one rfl (fun b => .slice (some ⟨b, 0, none⟩) 2 2) (.cells #[.slice bA bn bc, .slice bA' bn' bc'] 28) (fun W => by go_simp) fun _ _ => Drift.mkwalk_nil) (EvRK StK w2.heap.size mp XP) (fun W2 hk hl2 => ?_) (fun v w6 hv hI _ hTd2 => ?_)
    · go_simp
      go_at_call 32
      refine (Fa.concatS3 (L2 := [p]) (X := XP) (hl2 (b14, .cells #[.slice pA pn pc, .slice (some ⟨b11, 0, none⟩) 1 1, .slice pA' pn' pc'] 27) (by simp)) HPN.out rfl HPN'.out (HA2.out.kept (HB5.out.trans (hk.mono HB5.out.size))).piv.1 (RdK.of_sblock (L := [p]) (hl2 (b11, .cells #[.string p] 9) (by simp))) (HA2'.out.kept (HB5.out.trans (hk.mono HB5.out.size))).piv.1 HXP.out HMP.out (by have := HL.out.2.1; omega)).mono ?_
      rintro e w' ⟨⟨v, rfl, A', c', rfl, hv⟩, hb⟩
      exact ⟨_, rfl, ⟨A', c', rfl, hv.mono (Nat.le_trans HB5.out.size hk.size)⟩, Flow.Into.of_below hb⟩
    obtain ⟨A2, c2, rfl, hv⟩ := hv
    have HV2 := Lib.hid hv
    have HV1b := Lib.hid (HV1.out.kept hI.below)
    have HB6 : Hid (Below w2.heap.size w2 w6) := HB5.out.trans (hI.below.mono HB5.out.size)
    clear hv hI hT11 hT14 hTd HV1 HB5
    refine Drift.walk_make rfl Drift.mkwalk_nil (fun b => .slice (some ⟨b, 0, none⟩) 2 2) (.cells #[.slice bA bn bc, .slice bA' bn' bc'] 28) (fun W => by go_simp) (fun b20 hb20 hT20 => ?_)
    refine Drift.walk_event rfl Drift.mkwalk_nil (EvRK MgK w2.heap.size mm (B ++ B')) (fun W2 hk hl2 => ?_) (fun v w7 hv hI _ hTd3 => ?_)
    · go_simp
      go_at_call 33
      refine (Lf.concatM2 (X := B ++ B') (hl2 (b20, .cells #[.slice bA bn bc, .slice bA' bn' bc'] 28) (by simp)) HBN.out HBN'.out (HA2.out.kept (HB6.out.trans (hk.mono HB6.out.size))).buf.1 (HA2'.out.kept (HB6.out.trans (hk.mono HB6.out.size))).buf.1 rfl HMB.out (by have := HL.out.2.2; omega)).mono ?_
      rintro e w' ⟨⟨v, rfl, A', c', rfl, hv⟩, hb⟩
      exact ⟨_, rfl, ⟨A', c', rfl, hv.mono (Nat.le_trans HB6.out.size hk.size)⟩, Flow.Into.of_below hb⟩
    obtain ⟨A3, c3, rfl, hv⟩ := hv
    have HV3 := Lib.hid hv
    have HV2b := Lib.hid (HV2.out.kept hI.below)
    have HV1c := Lib.hid (HV1b.out.kept hI.below)
    have HB7 : Hid (Below w2.heap.size w2 w7) := HB6.out.trans (hI.below.mono HB6.out.size)
    clear hv hI HV1b HV2 HB6
    repeat (refine Drift.walk_step (fun K hK => ?_); go_simp; (refine hK _ ?_; clear hK K))
    refine Drift.walk_nil ?_
    intro w8 hb8 _
    have HVc := Lib.hid (HV3.out.kept hb8)
    have HVb := Lib.hid (HV2b.out.kept hb8)
    have HVa := Lib.hid (HV1c.out.kept hb8)
    have HSZ := Lib.hid ((Array.getElem?_eq_some_iff.1 HB.out.z).1)
    replace HB := Lib.hid (HB.out.kept (HB7.out.trans (hb8.mono HB7.out.size)))
    clear hb8 HV3 HV2b HV1c HB7 hTd2 hTd3 hT20 z0 z1 z2 z3 x1 x2 x3 HA2 HA2'
    simp only [List.length_cons, List.length_nil, List.drop_succ_cons, List.drop_zero, Nat.zero_add, Nat.reduceAdd]
    have f0 := free5 HB.out.z 0; have f1 := free5 HB.out.z 1; have f2 := free5 HB.out.z 2; have f3 := free5 HB.out.z 3; have f4 := free5 HB.out.z 4
    obtain ⟨u0, u1, u2, u3, u4⟩ := box5 HB.out.z
    go_wp2_with fail
    have HU := Lib.hid (set5_at HB.out.z (.int .i64 lv) (.slice A1 mk c1) (.slice A2 mp c2) (.slice A3 mm c3) (.slice none 0 0))
    have HI5 := Lib.hid (into_set5 w8 (g + 1 + 1) (.int .i64 lv) (.slice A1 mk c1) (.slice A2 mp c2) (.slice A3 mm c3) (.slice none 0 0))
    have HBW := Lib.hid (set5_below HB.out.below (show W.heap.size ≤ g + 1 + 1 from Nat.le_trans HB.out.at_ (by omega)) (.int .i64 lv) (.slice A1 mk c1) (.slice A2 mp c2) (.slice A3 mm c3) (.slice none 0 0))
    unfold set5 at HU HBW HI5
    have HVa5 := Lib.hid (HVa.out.into HI5.out (fun a ha hn => by have h1 := (HVa.out.at_ a ha).1; have h2 := HSZ.out; have h3 : a.block = g + 1 + 1 := (by simpa using hn); omega))
    have HVb5 := Lib.hid (HVb.out.into HI5.out (fun a ha hn => by have h1 := (HVb.out.at_ a ha).1; have h2 := HSZ.out; have h3 : a.block = g + 1 + 1 := (by simpa using hn); omega))
    have HVc5 := Lib.hid (HVc.out.into HI5.out (fun a ha hn => by have h1 := (HVc.out.at_ a ha).1; have h2 := HSZ.out; have h3 : a.block = g + 1 + 1 := (by simpa using hn); omega))
    clear u0 u1 u2 u3 u4 f0 f1 f2 f3 f4
    generalize ((((w8.setCell ⟨g + 1 + 1, 0, none⟩ (.int .i64 lv)).setCell ⟨g + 1 + 1, 1, none⟩ (.slice A1 mk c1)).setCell ⟨g + 1 + 1, 2, none⟩ (.slice A2 mp c2)).setCell ⟨g + 1 + 1, 3, none⟩ (.slice A3 mm c3)).setCell ⟨g + 1 + 1, 4, none⟩ (.slice none 0 0) = w9 at *
    obtain ⟨u0, u1, u2, u3, u4⟩ := box5 HU.out
    refine bodyPost_ret (v := .tuple #[.agg #[.int .i64 lv, .slice A1 mk c1, .slice A2 mp c2, .slice A3 mm c3, .slice none 0 0], .bool true]) (by simp [results, Try.results14, go_sem, u0, u1, u2, u3, u4]) rfl ⟨⟨_, rfl, ?_⟩, HBW.out⟩
    rw [HJ.out]
    exact ⟨⟨A1, c1, A2, c2, A3, c3, none, 0⟩, by rw [← HMK.out, ← HMP.out, ← HMB.out]; rfl, ⟨HVa5.out.rc, HVb5.out.rc, HVc5.out.rc, RC.nil _ _ _⟩⟩
end No
end Go.Proofs.Ytohnllclkpflaaa
