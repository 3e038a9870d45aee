/-
  CodeApart: for all settings and any two nodes that have blocks these are alike just if the nodes are.
-/
import Derived.Test.YtgpbioljldkmaaaPkBA
import Derived.Test.YtgpbioljldkmaaaPqDrift
import Derived.Test.YtgpbioljldkmaaaRows
import Derived.Test.YtgpbioljldkmaaaPkAC
import Derived.Test.YtgpbioljldkmaaaPkAB
import Derived.SizedLaws
import Derived.Lib.SmallJoins

namespace Go.Proofs.Ytgpbioljldkmaaa
open Go.RowKit
namespace No
open Mem Lx Bu Lf Fa
set_option maxRecDepth 100000 in
set_option maxHeartbeats 16000000 in
theorem CodeApart_heavy (cB cY cF cN cU cL cKy cV : Int) (n : Nd) (a : At) (m : Nd) (a2 : At) (W : World) (_ : NdIn W n a) (_ : NdOk n) (_ : NdIn W m a2) (_ : NdOk m) (hl : ¬ cY ≤ 3000) : Calls Try.prog 3 #[.agg #[.int .i64 cB, .int .i64 cY, .int .i64 cF, .int .i64 cN, .int .i64 cU, .int .i64 cL, .int .i64 cKy, .int .i64 cV], .agg (ndCs n a), .agg (ndCs m a2)] W fun e w' => e = .returned (.bool true) ∧ Below W.heap.size W w' := by
  have cA := fun w => Lib.hid (CAwake_any w)
  have cLi : ∀ w, Hid (Calls Try.prog 4 #[.agg #[.int .i64 cB, .int .i64 cY, .int .i64 cF, .int .i64 cN, .int .i64 cU, .int .i64 cL, .int .i64 cKy, .int .i64 cV]] w fun e w' => e = .returned (.bool false) ∧ Below w.heap.size w w') := fun w => (Light_any ⟨cB, cY, cF, cN, cU, cL, cKy, cV⟩ w).mono fun e w' ⟨he, hb⟩ => ⟨by rw [he, decide_eq_false hl], hb⟩
  clear hl
  obtain ⟨lv, K, P, B, Q⟩ := n
  obtain ⟨kA, kc, pA, pc, bA, bc, qA, qc⟩ := a
  obtain ⟨lv2, K2, P2, B2, Q2⟩ := m
  obtain ⟨kA2, kc2, pA2, pc2, bA2, bc2, qA2, qc2⟩ := a2
  unfold ndCs at *
  simp only at *
  generalize K.length = kn at *
  generalize P.length = pn at *
  generalize B.length = bn at *
  generalize Q.length = qn at *
  generalize K2.length = kn2 at *
  generalize P2.length = pn2 at *
  generalize B2.length = bn2 at *
  generalize Q2.length = qn2 at *
  go_enter Try.func3, Try.ntmps3
  go_upto_region 1 with fail
  have HB := Lib.hid (B3.new W (.cells #[.int .i64 cB, .int .i64 cY, .int .i64 cF, .int .i64 cN, .int .i64 cU, .int .i64 cL, .int .i64 cKy, .int .i64 cV] 23) (.cells #[.int .i64 lv, .slice kA kn kc, .slice pA pn pc, .slice bA bn bc, .slice qA qn qc] 29) (.cells #[.int .i64 lv2, .slice kA2 kn2 kc2, .slice pA2 pn2 pc2, .slice bA2 bn2 bc2, .slice qA2 qn2 qc2] 29))
  generalize ((W.alloc (.cells #[.int .i64 cB, .int .i64 cY, .int .i64 cF, .int .i64 cN, .int .i64 cU, .int .i64 cL, .int .i64 cKy, .int .i64 cV] 23)).alloc (.cells #[.int .i64 lv, .slice kA kn kc, .slice pA pn pc, .slice bA bn bc, .slice qA qn qc] 29)).alloc (.cells #[.int .i64 lv2, .slice kA2 kn2 kc2, .slice pA2 pn2 pc2, .slice bA2 bn2 bc2, .slice qA2 qn2 qc2] 29) = w1 at *
  obtain ⟨g, hg⟩ : ∃ g, g = W.heap.size := ⟨_, rfl⟩
  rw [← hg] at HB
  simp only [← hg]
  clear hg
  obtain ⟨g0, g1, g2, g3, g4, g5, g6, g7⟩ := box8 HB.out.x
  obtain ⟨d0, d1, d2, d3, d4⟩ := box5 HB.out.y
  obtain ⟨e0, e1, e2, e3, e4⟩ := box5 HB.out.z
  go_wp2_with (first | (go_at_call 4; refine (cLi _).out.mono ?_; rintro e w2 ⟨rfl, hb⟩; replace HB := Lib.hid (HB.out.kept hb); clear hb cLi g0 g1 g2 g3 g4 g5 g6 g7 d0 d1 d2 d3 d4 e0 e1 e2 e3 e4; obtain ⟨g0, g1, g2, g3, g4, g5, g6, g7⟩ := box8 HB.out.x; obtain ⟨d0, d1, d2, d3, d4⟩ := box5 HB.out.y; obtain ⟨e0, e1, e2, e3, e4⟩ := box5 HB.out.z) | (go_at_call 6; refine (cA _).out.mono ?_; rintro e w9 ⟨rfl, hb⟩; have HF := Lib.hid (HB.out.kept hb).below; clear hb))
  go_ret
  exact ⟨rfl, HF.out⟩
set_option maxRecDepth 100000 in
set_option maxHeartbeats 16000000 in
theorem CodeApart_greatn (cB cY cF cN cU cL cKy cV : Int) (n : Nd) (a : At) (m : Nd) (a2 : At) (W : World) (h : NdIn W n a) (hok : NdOk n) (_ : NdIn W m a2) (_ : NdOk m) (hl : cY ≤ 3000) (hg : ¬ Fit n) : Calls Try.prog 3 #[.agg #[.int .i64 cB, .int .i64 cY, .int .i64 cF, .int .i64 cN, .int .i64 cU, .int .i64 cL, .int .i64 cKy, .int .i64 cV], .agg (ndCs n a), .agg (ndCs m a2)] W fun e w' => e = .returned (.bool true) ∧ Below W.heap.size W w' := by
  have cA := fun w => Lib.hid (CAwake_any w)
  have cLi : ∀ w, Hid (Calls Try.prog 4 #[.agg #[.int .i64 cB, .int .i64 cY, .int .i64 cF, .int .i64 cN, .int .i64 cU, .int .i64 cL, .int .i64 cKy, .int .i64 cV]] w fun e w' => e = .returned (.bool true) ∧ Below w.heap.size w w') := fun w => (Light_any ⟨cB, cY, cF, cN, cU, cL, cKy, cV⟩ w).mono fun e w' ⟨he, hb⟩ => ⟨by rw [he, decide_eq_true hl], hb⟩
  have cGr : ∀ w, Below W.heap.size W w → Hid (Calls Try.prog 5 #[.agg (ndCs n a)] w fun e w' => e = .returned (.bool true) ∧ Below w.heap.size w w') := fun w hb => (Great_any (h.kept hb) hok).mono fun e w' ⟨⟨v, he, hv⟩, hb⟩ => ⟨by
    rw [he]
    cases v <;> simp_all, hb⟩
  clear h hok hl hg
  obtain ⟨lv, K, P, B, Q⟩ := n
  obtain ⟨kA, kc, pA, pc, bA, bc, qA, qc⟩ := a
  obtain ⟨lv2, K2, P2, B2, Q2⟩ := m
  obtain ⟨kA2, kc2, pA2, pc2, bA2, bc2, qA2, qc2⟩ := a2
  unfold ndCs at *
  simp only at *
  generalize K.length = kn at *
  generalize P.length = pn at *
  generalize B.length = bn at *
  generalize Q.length = qn at *
  generalize K2.length = kn2 at *
  generalize P2.length = pn2 at *
  generalize B2.length = bn2 at *
  generalize Q2.length = qn2 at *
  go_enter Try.func3, Try.ntmps3
  go_upto_region 1 with fail
  have HB := Lib.hid (B3.new W (.cells #[.int .i64 cB, .int .i64 cY, .int .i64 cF, .int .i64 cN, .int .i64 cU, .int .i64 cL, .int .i64 cKy, .int .i64 cV] 23) (.cells #[.int .i64 lv, .slice kA kn kc, .slice pA pn pc, .slice bA bn bc, .slice qA qn qc] 29) (.cells #[.int .i64 lv2, .slice kA2 kn2 kc2, .slice pA2 pn2 pc2, .slice bA2 bn2 bc2, .slice qA2 qn2 qc2] 29))
  generalize ((W.alloc (.cells #[.int .i64 cB, .int .i64 cY, .int .i64 cF, .int .i64 cN, .int .i64 cU, .int .i64 cL, .int .i64 cKy, .int .i64 cV] 23)).alloc (.cells #[.int .i64 lv, .slice kA kn kc, .slice pA pn pc, .slice bA bn bc, .slice qA qn qc] 29)).alloc (.cells #[.int .i64 lv2, .slice kA2 kn2 kc2, .slice pA2 pn2 pc2, .slice bA2 bn2 bc2, .slice qA2 qn2 qc2] 29) = w1 at *
  obtain ⟨g, hg⟩ : ∃ g, g = W.heap.size := ⟨_, rfl⟩
  rw [← hg] at HB
  simp only [← hg]
  clear hg
  obtain ⟨g0, g1, g2, g3, g4, g5, g6, g7⟩ := box8 HB.out.x
  obtain ⟨d0, d1, d2, d3, d4⟩ := box5 HB.out.y
  obtain ⟨e0, e1, e2, e3, e4⟩ := box5 HB.out.z
  go_wp2_with (first | (go_at_call 4; refine (cLi _).out.mono ?_; rintro e w2 ⟨rfl, hb⟩; replace HB := Lib.hid (HB.out.kept hb); clear hb cLi g0 g1 g2 g3 g4 g5 g6 g7 d0 d1 d2 d3 d4 e0 e1 e2 e3 e4; obtain ⟨g0, g1, g2, g3, g4, g5, g6, g7⟩ := box8 HB.out.x; obtain ⟨d0, d1, d2, d3, d4⟩ := box5 HB.out.y; obtain ⟨e0, e1, e2, e3, e4⟩ := box5 HB.out.z) | (go_at_call_of 5 (Value.agg #[.int .i64 lv, .slice kA kn kc, .slice pA pn pc, .slice bA bn bc, .slice qA qn qc]); refine (cGr _ HB.out.below).out.mono ?_; rintro e w3 ⟨rfl, hb⟩; replace HB := Lib.hid (HB.out.kept hb); clear hb cGr g0 g1 g2 g3 g4 g5 g6 g7 d0 d1 d2 d3 d4 e0 e1 e2 e3 e4; obtain ⟨g0, g1, g2, g3, g4, g5, g6, g7⟩ := box8 HB.out.x; obtain ⟨d0, d1, d2, d3, d4⟩ := box5 HB.out.y; obtain ⟨e0, e1, e2, e3, e4⟩ := box5 HB.out.z) | (go_at_call 6; refine (cA _).out.mono ?_; rintro e w9 ⟨rfl, hb⟩; have HF := Lib.hid (HB.out.kept hb).below; clear hb))
  go_ret
  exact ⟨rfl, HF.out⟩
set_option maxRecDepth 100000 in
set_option maxHeartbeats 16000000 in
theorem CodeApart_greatm (cB cY cF cN cU cL cKy cV : Int) (n : Nd) (a : At) (m : Nd) (a2 : At) (W : World) (h : NdIn W n a) (hok : NdOk n) (h' : NdIn W m a2) (hok' : NdOk m) (hl : cY ≤ 3000) (hg : Fit n) (hg2 : ¬ Fit m) : Calls Try.prog 3 #[.agg #[.int .i64 cB, .int .i64 cY, .int .i64 cF, .int .i64 cN, .int .i64 cU, .int .i64 cL, .int .i64 cKy, .int .i64 cV], .agg (ndCs n a), .agg (ndCs m a2)] W fun e w' => e = .returned (.bool true) ∧ Below W.heap.size W w' := by
  have cA := fun w => Lib.hid (CAwake_any w)
  have cLi : ∀ w, Hid (Calls Try.prog 4 #[.agg #[.int .i64 cB, .int .i64 cY, .int .i64 cF, .int .i64 cN, .int .i64 cU, .int .i64 cL, .int .i64 cKy, .int .i64 cV]] w fun e w' => e = .returned (.bool true) ∧ Below w.heap.size w w') := fun w => (Light_any ⟨cB, cY, cF, cN, cU, cL, cKy, cV⟩ w).mono fun e w' ⟨he, hb⟩ => ⟨by rw [he, decide_eq_true hl], hb⟩
  have cGr : ∀ w, Below W.heap.size W w → Hid (Calls Try.prog 5 #[.agg (ndCs n a)] w fun e w' => e = .returned (.bool false) ∧ Below w.heap.size w w') := fun w hb => (Great_any (h.kept hb) hok).mono fun e w' ⟨⟨v, he, hv⟩, hb⟩ => ⟨by
    rw [he]
    cases v <;> simp_all, hb⟩
  have cGm : ∀ w, Below W.heap.size W w → Hid (Calls Try.prog 5 #[.agg (ndCs m a2)] w fun e w' => e = .returned (.bool true) ∧ Below w.heap.size w w') := fun w hb => (Great_any (h'.kept hb) hok').mono fun e w' ⟨⟨v, he, hv⟩, hb⟩ => ⟨by
    rw [he]
    cases v <;> simp_all, hb⟩
  clear h hok h' hok' hl hg hg2
  obtain ⟨lv, K, P, B, Q⟩ := n
  obtain ⟨kA, kc, pA, pc, bA, bc, qA, qc⟩ := a
  obtain ⟨lv2, K2, P2, B2, Q2⟩ := m
  obtain ⟨kA2, kc2, pA2, pc2, bA2, bc2, qA2, qc2⟩ := a2
  unfold ndCs at *
  simp only at *
  generalize K.length = kn at *
  generalize P.length = pn at *
  generalize B.length = bn at *
  generalize Q.length = qn at *
  generalize K2.length = kn2 at *
  generalize P2.length = pn2 at *
  generalize B2.length = bn2 at *
  generalize Q2.length = qn2 at *
  go_enter Try.func3, Try.ntmps3
  go_upto_region 1 with fail
  have HB := Lib.hid (B3.new W (.cells #[.int .i64 cB, .int .i64 cY, .int .i64 cF, .int .i64 cN, .int .i64 cU, .int .i64 cL, .int .i64 cKy, .int .i64 cV] 23) (.cells #[.int .i64 lv, .slice kA kn kc, .slice pA pn pc, .slice bA bn bc, .slice qA qn qc] 29) (.cells #[.int .i64 lv2, .slice kA2 kn2 kc2, .slice pA2 pn2 pc2, .slice bA2 bn2 bc2, .slice qA2 qn2 qc2] 29))
  generalize ((W.alloc (.cells #[.int .i64 cB, .int .i64 cY, .int .i64 cF, .int .i64 cN, .int .i64 cU, .int .i64 cL, .int .i64 cKy, .int .i64 cV] 23)).alloc (.cells #[.int .i64 lv, .slice kA kn kc, .slice pA pn pc, .slice bA bn bc, .slice qA qn qc] 29)).alloc (.cells #[.int .i64 lv2, .slice kA2 kn2 kc2, .slice pA2 pn2 pc2, .slice bA2 bn2 bc2, .slice qA2 qn2 qc2] 29) = w1 at *
  obtain ⟨g, hg⟩ : ∃ g, g = W.heap.size := ⟨_, rfl⟩
  rw [← hg] at HB
  simp only [← hg]
  clear hg
  obtain ⟨g0, g1, g2, g3, g4, g5, g6, g7⟩ := box8 HB.out.x
  obtain ⟨d0, d1, d2, d3, d4⟩ := box5 HB.out.y
  obtain ⟨e0, e1, e2, e3, e4⟩ := box5 HB.out.z
  go_wp2_with (first | (go_at_call 4; refine (cLi _).out.mono ?_; rintro e w2 ⟨rfl, hb⟩; replace HB := Lib.hid (HB.out.kept hb); clear hb cLi g0 g1 g2 g3 g4 g5 g6 g7 d0 d1 d2 d3 d4 e0 e1 e2 e3 e4; obtain ⟨g0, g1, g2, g3, g4, g5, g6, g7⟩ := box8 HB.out.x; obtain ⟨d0, d1, d2, d3, d4⟩ := box5 HB.out.y; obtain ⟨e0, e1, e2, e3, e4⟩ := box5 HB.out.z) | (go_at_call_of 5 (Value.agg #[.int .i64 lv, .slice kA kn kc, .slice pA pn pc, .slice bA bn bc, .slice qA qn qc]); refine (cGr _ HB.out.below).out.mono ?_; rintro e w3 ⟨rfl, hb⟩; replace HB := Lib.hid (HB.out.kept hb); clear hb cGr g0 g1 g2 g3 g4 g5 g6 g7 d0 d1 d2 d3 d4 e0 e1 e2 e3 e4; obtain ⟨g0, g1, g2, g3, g4, g5, g6, g7⟩ := box8 HB.out.x; obtain ⟨d0, d1, d2, d3, d4⟩ := box5 HB.out.y; obtain ⟨e0, e1, e2, e3, e4⟩ := box5 HB.out.z) | (go_at_call 5; refine (cGm _ HB.out.below).out.mono ?_; rintro e w4 ⟨rfl, hb⟩; replace HB := Lib.hid (HB.out.kept hb); clear hb cGm g0 g1 g2 g3 g4 g5 g6 g7 d0 d1 d2 d3 d4 e0 e1 e2 e3 e4; obtain ⟨g0, g1, g2, g3, g4, g5, g6, g7⟩ := box8 HB.out.x; obtain ⟨d0, d1, d2, d3, d4⟩ := box5 HB.out.y; obtain ⟨e0, e1, e2, e3, e4⟩ := box5 HB.out.z) | (go_at_call 6; refine (cA _).out.mono ?_; rintro e w9 ⟨rfl, hb⟩; have HF := Lib.hid (HB.out.kept hb).below; clear hb))
  go_ret
  exact ⟨rfl, HF.out⟩
set_option maxRecDepth 100000 in
set_option maxHeartbeats 16000000 in
theorem CodeApart_yes (cB cY cF cN cU cL cKy cV : Int) (n : Nd) (a : At) (m : Nd) (a2 : At) (W : World) (h : NdIn W n a) (hok : NdOk n) (h' : NdIn W m a2) (hok' : NdOk m) (hl : cY ≤ 3000) (hg : Fit n) (hg2 : Fit m) : Calls Try.prog 3 #[.agg #[.int .i64 cB, .int .i64 cY, .int .i64 cF, .int .i64 cN, .int .i64 cU, .int .i64 cL, .int .i64 cKy, .int .i64 cV], .agg (ndCs n a), .agg (ndCs m a2)] W fun e w' => e = .returned (.bool true) ∧ Below W.heap.size W w' := by
  have cA := fun w => Lib.hid (CAwake_any w)
  have cLi : ∀ w, Hid (Calls Try.prog 4 #[.agg #[.int .i64 cB, .int .i64 cY, .int .i64 cF, .int .i64 cN, .int .i64 cU, .int .i64 cL, .int .i64 cKy, .int .i64 cV]] w fun e w' => e = .returned (.bool true) ∧ Below w.heap.size w w') := fun w => (Light_any ⟨cB, cY, cF, cN, cU, cL, cKy, cV⟩ w).mono fun e w' ⟨he, hb⟩ => ⟨by rw [he, decide_eq_true hl], hb⟩
  have cGr : ∀ w, Below W.heap.size W w → Hid (Calls Try.prog 5 #[.agg (ndCs n a)] w fun e w' => e = .returned (.bool false) ∧ Below w.heap.size w w') := fun w hb => (Great_any (h.kept hb) hok).mono fun e w' ⟨⟨v, he, hv⟩, hb⟩ => ⟨by
    rw [he]
    cases v <;> simp_all, hb⟩
  have cGm : ∀ w, Below W.heap.size W w → Hid (Calls Try.prog 5 #[.agg (ndCs m a2)] w fun e w' => e = .returned (.bool false) ∧ Below w.heap.size w w') := fun w hb => (Great_any (h'.kept hb) hok').mono fun e w' ⟨⟨v, he, hv⟩, hb⟩ => ⟨by
    rw [he]
    cases v <;> simp_all, hb⟩
  obtain ⟨s, f, hs⟩ := EncP.some ⟨cB, cY, cF, cN, cU, cL, cKy, cV⟩ n
  obtain ⟨s', f', hs'⟩ := EncP.some ⟨cB, cY, cF, cN, cU, cL, cKy, cV⟩ m
  obtain ⟨r, hr⟩ := bool_of (n = m)
  have HEQ : Hid (f = 0 → f' = 0 → ((strOf s).toList == (strOf s').toList) = r) := fun e e' => by
    have h1 : RightA ⟨cB, cY, cF, cN, cU, cL, cKy, cV⟩ n ∧ s = blockL ⟨cB, cY, cF, cN, cU, cL, cKy, cV⟩ n := by
      rcases hs with ⟨-, -, h9⟩ | ⟨-, -, -, h9⟩ | ⟨h7, h8, -⟩
      · omega
      · omega
      · exact ⟨h7, h8⟩
    have h2 : RightA ⟨cB, cY, cF, cN, cU, cL, cKy, cV⟩ m ∧ s' = blockL ⟨cB, cY, cF, cN, cU, cL, cKy, cV⟩ m := by
      rcases hs' with ⟨-, -, h9⟩ | ⟨-, -, -, h9⟩ | ⟨h7, h8, -⟩
      · omega
      · omega
      · exact ⟨h7, h8⟩
    rw [Bool.eq_iff_iff, hr, beq_iff_eq, Lib.toList_data, Lib.toList_data, strOf_toList, strOf_toList, h1.2, h2.2]
    exact ⟨fun e => block_inj h1.1 h2.1 e, fun e => by rw [e]⟩
  have cE : ∀ w, Below W.heap.size W w → Hid (Calls Try.prog 7 #[.agg #[.int .i64 cB, .int .i64 cY, .int .i64 cF, .int .i64 cN, .int .i64 cU, .int .i64 cL, .int .i64 cKy, .int .i64 cV], .agg (ndCs n a)] w fun e w' => (∃ A cap, e = .returned (.tuple #[.slice A s.length cap, .int .i64 f]) ∧ FrB w' w.heap.size A s ∧ s.length ≤ cap) ∧ Below w.heap.size w w') := fun w hb => Encode_c ⟨cB, cY, cF, cN, cU, cL, cKy, cV⟩ (h.kept hb) hg.sz hg.kids hok.kid hl hs
  have cE2 : ∀ w, Below W.heap.size W w → Hid (Calls Try.prog 7 #[.agg #[.int .i64 cB, .int .i64 cY, .int .i64 cF, .int .i64 cN, .int .i64 cU, .int .i64 cL, .int .i64 cKy, .int .i64 cV], .agg (ndCs m a2)] w fun e w' => (∃ A cap, e = .returned (.tuple #[.slice A s'.length cap, .int .i64 f']) ∧ FrB w' w.heap.size A s' ∧ s'.length ≤ cap) ∧ Below w.heap.size w w') := fun w hb => Encode_c ⟨cB, cY, cF, cN, cU, cL, cKy, cV⟩ (h'.kept hb) hg2.sz hg2.kids hok'.kid hl hs'
  have cS : ∀ w, Below W.heap.size W w → Hid (Calls Try.prog 8 #[.agg (ndCs n a), .agg (ndCs m a2)] w fun e w' => e = .returned (.bool r) ∧ Below w.heap.size w w') := fun w hb => (RSame_any (h.kept hb) (h'.kept hb) hg.sz hg2.sz).mono fun e w' ⟨⟨v, he, hv⟩, hb⟩ => ⟨by rw [he, bool_one hv hr], hb⟩
  clear h hok h' hok' hl hg hg2 hs hs' hr
  generalize hsl : s.length = sl at *
  generalize hsl' : s'.length = sl' at *
  have HSL := Lib.hid hsl
  have HSL' := Lib.hid hsl'
  clear hsl hsl'
  obtain ⟨lv, K, P, B, Q⟩ := n
  obtain ⟨kA, kc, pA, pc, bA, bc, qA, qc⟩ := a
  obtain ⟨lv2, K2, P2, B2, Q2⟩ := m
  obtain ⟨kA2, kc2, pA2, pc2, bA2, bc2, qA2, qc2⟩ := a2
  unfold ndCs at *
  simp only at *
  generalize K.length = kn at *
  generalize P.length = pn at *
  generalize B.length = bn at *
  generalize Q.length = qn at *
  generalize K2.length = kn2 at *
  generalize P2.length = pn2 at *
  generalize B2.length = bn2 at *
  generalize Q2.length = qn2 at *
  go_enter Try.func3, Try.ntmps3
  go_upto_region 1 with fail
  have HB := Lib.hid (B3.new W (.cells #[.int .i64 cB, .int .i64 cY, .int .i64 cF, .int .i64 cN, .int .i64 cU, .int .i64 cL, .int .i64 cKy, .int .i64 cV] 23) (.cells #[.int .i64 lv, .slice kA kn kc, .slice pA pn pc, .slice bA bn bc, .slice qA qn qc] 29) (.cells #[.int .i64 lv2, .slice kA2 kn2 kc2, .slice pA2 pn2 pc2, .slice bA2 bn2 bc2, .slice qA2 qn2 qc2] 29))
  generalize ((W.alloc (.cells #[.int .i64 cB, .int .i64 cY, .int .i64 cF, .int .i64 cN, .int .i64 cU, .int .i64 cL, .int .i64 cKy, .int .i64 cV] 23)).alloc (.cells #[.int .i64 lv, .slice kA kn kc, .slice pA pn pc, .slice bA bn bc, .slice qA qn qc] 29)).alloc (.cells #[.int .i64 lv2, .slice kA2 kn2 kc2, .slice pA2 pn2 pc2, .slice bA2 bn2 bc2, .slice qA2 qn2 qc2] 29) = w1 at *
  obtain ⟨g, hg⟩ : ∃ g, g = W.heap.size := ⟨_, rfl⟩
  rw [← hg] at HB
  simp only [← hg]
  clear hg
  obtain ⟨g0, g1, g2, g3, g4, g5, g6, g7⟩ := box8 HB.out.x
  obtain ⟨d0, d1, d2, d3, d4⟩ := box5 HB.out.y
  obtain ⟨e0, e1, e2, e3, e4⟩ := box5 HB.out.z
  go_upto_region 4 with (first
    | (go_at_call 4; refine (cLi _).out.mono ?_; rintro e w2 ⟨rfl, hb⟩; replace HB := Lib.hid (HB.out.kept hb); clear hb cLi g0 g1 g2 g3 g4 g5 g6 g7 d0 d1 d2 d3 d4 e0 e1 e2 e3 e4; obtain ⟨g0, g1, g2, g3, g4, g5, g6, g7⟩ := box8 HB.out.x; obtain ⟨d0, d1, d2, d3, d4⟩ := box5 HB.out.y; obtain ⟨e0, e1, e2, e3, e4⟩ := box5 HB.out.z)
    | (go_at_call_of 5 (Value.agg #[.int .i64 lv, .slice kA kn kc, .slice pA pn pc, .slice bA bn bc, .slice qA qn qc]); refine (cGr _ HB.out.below).out.mono ?_; rintro e w3 ⟨rfl, hb⟩; replace HB := Lib.hid (HB.out.kept hb); clear hb cGr g0 g1 g2 g3 g4 g5 g6 g7 d0 d1 d2 d3 d4 e0 e1 e2 e3 e4; obtain ⟨g0, g1, g2, g3, g4, g5, g6, g7⟩ := box8 HB.out.x; obtain ⟨d0, d1, d2, d3, d4⟩ := box5 HB.out.y; obtain ⟨e0, e1, e2, e3, e4⟩ := box5 HB.out.z)
    | (go_at_call 5; refine (cGm _ HB.out.below).out.mono ?_; rintro e w4 ⟨rfl, hb⟩; replace HB := Lib.hid (HB.out.kept hb); clear hb cGm g0 g1 g2 g3 g4 g5 g6 g7 d0 d1 d2 d3 d4 e0 e1 e2 e3 e4; obtain ⟨g0, g1, g2, g3, g4, g5, g6, g7⟩ := box8 HB.out.x; obtain ⟨d0, d1, d2, d3, d4⟩ := box5 HB.out.y; obtain ⟨e0, e1, e2, e3, e4⟩ := box5 HB.out.z)
    | (go_at_call 7; refine (cE _ HB.out.below).out.mono ?_; rintro e w5 ⟨⟨A, cap, rfl, hf, -⟩, hb⟩; have HFB := Lib.hid hf.bl; clear hf; replace HB := Lib.hid (HB.out.kept hb); clear hb cE g0 g1 g2 g3 g4 g5 g6 g7 d0 d1 d2 d3 d4 e0 e1 e2 e3 e4; obtain ⟨g0, g1, g2, g3, g4, g5, g6, g7⟩ := box8 HB.out.x; obtain ⟨d0, d1, d2, d3, d4⟩ := box5 HB.out.y; obtain ⟨e0, e1, e2, e3, e4⟩ := box5 HB.out.z))
  go_upto_region 5 with (go_at_call 7; refine (cE2 _ HB.out.below).out.mono ?_; rintro e w6 ⟨⟨A', cap', rfl, hf, -⟩, hb⟩; have HFB2 := Lib.hid hf.bl; clear hf; replace HB := Lib.hid (HB.out.kept hb); replace HFB := Lib.hid (HFB.out.below hb); clear hb cE2 g0 g1 g2 g3 g4 g5 g6 g7 d0 d1 d2 d3 d4 e0 e1 e2 e3 e4; obtain ⟨g0, g1, g2, g3, g4, g5, g6, g7⟩ := box8 HB.out.x; obtain ⟨d0, d1, d2, d3, d4⟩ := box5 HB.out.y; obtain ⟨e0, e1, e2, e3, e4⟩ := box5 HB.out.z)
  have td0 := fun q : Drift.Tide [] w6 [] => Drift.Tide.cell d0 (by simp) q
  have td1 := fun q : Drift.Tide [] w6 [] => Drift.Tide.cell d1 (by simp) q
  have td2 := fun q : Drift.Tide [] w6 [] => Drift.Tide.cell d2 (by simp) q
  have td3 := fun q : Drift.Tide [] w6 [] => Drift.Tide.cell d3 (by simp) q
  have td4 := fun q : Drift.Tide [] w6 [] => Drift.Tide.cell d4 (by simp) q
  have te0 := fun q : Drift.Tide [] w6 [] => Drift.Tide.cell e0 (by simp) q
  have te1 := fun q : Drift.Tide [] w6 [] => Drift.Tide.cell e1 (by simp) q
  have te2 := fun q : Drift.Tide [] w6 [] => Drift.Tide.cell e2 (by simp) q
  have te3 := fun q : Drift.Tide [] w6 [] => Drift.Tide.cell e3 (by simp) q
  have te4 := fun q : Drift.Tide [] w6 [] => Drift.Tide.cell e4 (by simp) q
  clear g0 g1 g2 g3 g4 g5 g6 g7 d0 d1 d2 d3 d4 e0 e1 e2 e3 e4
  by_cases e1 : f = 0
  · have hf1 : (f != 0) = false := by simpa using e1
    by_cases e2 : f' = 0
    · have hf2 : (f' != 0) = false := by simpa using e2
      have heq := HEQ.out e1 e2
      have r1 := fun q : Drift.Tide [] w6 [] => run_text_n (P := Try.prog) Try.underlying33 Try.underlying5 Try.underlying9 (HFB.out.below q.into.below) HSL.out cap
      have r2 := fun q : Drift.Tide [] w6 [] => run_text_n (P := Try.prog) Try.underlying33 Try.underlying5 Try.underlying9 (HFB2.out.below q.into.below) HSL'.out cap'
      clear e1 e2 HEQ
      generalize strOf s = tx at *
      generalize strOf s' = ty at *
      refine Drift.wp_region_drift [] [(0,[]),(1,[]),(2,[]),(3,[]),(4,[]),(5,[]),(6,[]),(7,[]),(8,[]),(9,[]),(10,[]),(11,[]),(12,[]),(13,[]),(14,[]),(15,[]),(16,[]),(17,[]),(18,[]),(19,[]),(20,[])] [] [] (by kernel_rfl) (by kernel_rfl) (by simp) ?_
      simp only [Drift.pick, Drift.opsAt, List.getElem?_toArray, List.getElem?_cons_zero, List.getElem?_cons_succ, List.cons_append, List.nil_append, List.filterMap_nil]
      repeat (refine Drift.walk_step (fun K hK => ?_); go_simp; first | (refine hK _ ?_; clear hK K) | (apply Exists.intro; refine ⟨fun q => ?_, hK _ ?_⟩; (first | (go_at_call 8; exact (cS _ (HB.out.below.trans (q.into.below.mono HB.out.below.size))).out) | (go_at_call 6; exact (cA _).out)); clear hK K))
      refine Drift.walk_nil ?_
      intro w8 hb8 _
      have HF := Lib.hid (HB.out.below.trans (hb8.mono HB.out.below.size))
      clear hb8 td0 td1 td2 td3 td4 te0 te1 te2 te3 te4 r1 r2 cS
      simp only [List.length_cons, List.length_nil, List.drop_succ_cons, List.drop_nil, Nat.zero_add, Nat.reduceAdd]
      go_wp2_with fail
      go_ret
      exact ⟨rfl, HF.out⟩
    · have hf2 : (f' != 0) = true := by simpa using e2
      clear e1 e2 HEQ cS
      refine Drift.wp_region_drift [] [(0,[]),(1,[]),(2,[]),(3,[]),(4,[]),(5,[]),(6,[]),(7,[]),(8,[]),(9,[]),(10,[]),(11,[]),(12,[]),(13,[]),(14,[]),(15,[]),(16,[]),(17,[]),(18,[]),(19,[]),(20,[])] [] [] (by kernel_rfl) (by kernel_rfl) (by simp) ?_
      simp only [Drift.pick, Drift.opsAt, List.getElem?_toArray, List.getElem?_cons_zero, List.getElem?_cons_succ, List.cons_append, List.nil_append, List.filterMap_nil]
      repeat (refine Drift.walk_step (fun K hK => ?_); go_simp; first | (refine hK _ ?_; clear hK K) | (apply Exists.intro; refine ⟨fun q => ?_, hK _ ?_⟩; (first | (go_at_call 6; exact (cA _).out)); clear hK K))
      refine Drift.walk_nil ?_
      intro w8 hb8 _
      have HF := Lib.hid (HB.out.below.trans (hb8.mono HB.out.below.size))
      clear hb8 td0 td1 td2 td3 td4 te0 te1 te2 te3 te4
      simp only [List.length_cons, List.length_nil, List.drop_succ_cons, List.drop_nil, Nat.zero_add, Nat.reduceAdd]
      go_wp2_with fail
      go_ret
      exact ⟨rfl, HF.out⟩
  · have hf1 : (f != 0) = true := by simpa using e1
    clear e1 HEQ cS
    refine Drift.wp_region_drift [] [(0,[]),(1,[]),(2,[]),(3,[]),(4,[]),(5,[]),(6,[]),(7,[]),(8,[]),(9,[]),(10,[]),(11,[]),(12,[]),(13,[]),(14,[]),(15,[]),(16,[]),(17,[]),(18,[]),(19,[]),(20,[])] [] [] (by kernel_rfl) (by kernel_rfl) (by simp) ?_
    simp only [Drift.pick, Drift.opsAt, List.getElem?_toArray, List.getElem?_cons_zero, List.getElem?_cons_succ, List.cons_append, List.nil_append, List.filterMap_nil]
    repeat (refine Drift.walk_step (fun K hK => ?_); go_simp; first | (refine hK _ ?_; clear hK K) | (apply Exists.intro; refine ⟨fun q => ?_, hK _ ?_⟩; (first | (go_at_call 6; exact (cA _).out)); clear hK K))
    refine Drift.walk_nil ?_
    intro w8 hb8 _
    have HF := Lib.hid (HB.out.below.trans (hb8.mono HB.out.below.size))
    clear hb8 td0 td1 td2 td3 td4 te0 te1 te2 te3 te4
    simp only [List.length_cons, List.length_nil, List.drop_succ_cons, List.drop_nil, Nat.zero_add, Nat.reduceAdd]
    go_wp2_with fail
    go_ret
    exact ⟨rfl, HF.out⟩
theorem CodeApart_walk (cB cY cF cN cU cL cKy cV : Int) (n : Nd) (a : At) (m : Nd) (a2 : At) (W : World) (h : NdIn W n a) (hok : NdOk n) (h' : NdIn W m a2) (hok' : NdOk m) : Calls Try.prog 3 #[.agg #[.int .i64 cB, .int .i64 cY, .int .i64 cF, .int .i64 cN, .int .i64 cU, .int .i64 cL, .int .i64 cKy, .int .i64 cV], .agg (ndCs n a), .agg (ndCs m a2)] W fun e w' => e = .returned (.bool true) ∧ Below W.heap.size W w' := by
  by_cases hl : cY ≤ 3000
  · by_cases hg : Fit n
    · by_cases hg2 : Fit m
      · exact CodeApart_yes cB cY cF cN cU cL cKy cV n a m a2 W h hok h' hok' hl hg hg2
      · exact CodeApart_greatm cB cY cF cN cU cL cKy cV n a m a2 W h hok h' hok' hl hg hg2
    · exact CodeApart_greatn cB cY cF cN cU cL cKy cV n a m a2 W h hok h' hok' hl hg
  · exact CodeApart_heavy cB cY cF cN cU cL cKy cV n a m a2 W h hok h' hok' hl
end No
end Go.Proofs.Ytgpbioljldkmaaa

namespace Go.Proofs.Ytgpbioljldkmaaa.CodeApart
open Go.ChangeShapes Go.WideShapes Go.ChangeAt Go.RowKit
open Go.ChangeMaps (open_string shut_string)

theorem own : ownKnob Try.prog.godebug = none := by kernel_rfl

set_option maxRecDepth 100000 in
theorem contract (H : Type) (enc : TypeId × Value → H) (W : World) (base : Nat) (args : Array Value) (ds gs : List (DataW H)) (before : List MemPlace)
    (hval : ∀ (j : Nat) t v, Try.f3.params[j]? = some t → args[j]? = some v → Value.okWide Try.prog W .any base t v)
    (hW : DataW.Whole enc Try.prog Try.f3.params.toList Rows.codeApartSpec.vars false W args.toList ds gs before)
    (hsz : (DataW.weightsEach Try.prog (Try.f3.params.toList ++ Rows.codeApartSpec.plain.varTypes Try.prog) (ds ++ gs)).all (· ≤ reachBytes) = true) :
    Calls Try.prog 3 args W fun e W' => ∃ v, e = .returned v ∧ Rows.codeApartSpec.post enc Try.prog Try.f3 false true false false W args v W' := by
  have hW' := hW
  obtain ⟨p, q, hA0, hV, rfl, hfz, hnd⟩ := hW
  have hA : DataW.TrodAll enc Try.prog W 0 (fun _ => true) true Try.f3.params.toList args.toList ds p := hA0
  rw [Try.params3] at hA hval
  obtain ⟨v0, vs0, d0, ds0, p0, q0, hargs0, rfl, rfl, h0, r0⟩ := trodAll_cons hA
  obtain ⟨v1, vs1, d1, ds1, p1, q1, hargs1, rfl, rfl, h1, r1⟩ := trodAll_cons r0
  obtain ⟨v2, vs2, d2, ds2, p2, q2, hargs2, rfl, rfl, h2, r2⟩ := trodAll_cons r1
  obtain ⟨rfl, rfl, rfl⟩ := trodAll_nil r2
  obtain rfl : args = #[v0, v1, v2] := by cases args; simp_all
  obtain ⟨rfl, rfl⟩ := trodVars_none hV
  obtain ⟨cB, cY, cF, cN, cU, cL, cKy, cV, rfl⟩ := Cf.open_cfg (hval 0 23 v0 rfl rfl) h0
  have zn : ∀ n ∈ d1.weights Try.prog 29, n ≤ reachBytes := fun n hn => by
    have := List.all_eq_true.1 hsz n (DataW.weights_mem_each (j := 1) (by rw [Try.params3]; rfl) rfl n hn)
    simpa using this
  obtain ⟨n, An, rfl, hn, bn⟩ := No.open_node (hval 1 29 v1 rfl rfl) h1 zn
  have zm : ∀ n ∈ d2.weights Try.prog 29, n ≤ reachBytes := fun n hn => by
    have := List.all_eq_true.1 hsz n (DataW.weights_mem_each (j := 2) (by rw [Try.params3]; rfl) rfl n hn)
    simpa using this
  obtain ⟨m, Am, rfl, hm, bm⟩ := No.open_node (hval 2 29 v2 rfl rfl) h2 zm
  clear hA0
  simp only [List.append_nil] at hW'
  refine (No.CodeApart_walk cB cY cF cN cU cL cKy cV n An m Am W hn bn hm bm).mono fun e W' ⟨he, hg⟩ => ?_
  subst he
  exact ⟨_, rfl, Post.law_post (by kernel_rfl) (by kernel_rfl) hW' rfl rfl rfl Try.underlying4 hg⟩

set_option maxRecDepth 100000 in
theorem lifted (os : Os) (started : os.Started) (H : Type) (enc : TypeId × Value → H) :
    ReturnsInHanded {} Try.checked os 3 .any (Rows.codeApartSpec.pre6 enc Try.prog Try.f3 Rows.codeApartRow.domain false) (Rows.codeApartSpec.post enc Try.prog Try.f3 false true false false) := by
  refine returnsInHanded_of_change_sized (C := Try.checked) own started (by kernel_rfl) Try.func3
    (ChangeSpec.witness6 (enc := enc) (C := Try.checked) false ⟨#[], #[.agg #[.int .i64 0, .int .i64 0, .int .i64 0, .int .i64 0, .int .i64 0, .int .i64 0, .int .i64 0, .int .i64 0], .agg #[.int .i64 0, .slice none 0 0, .slice none 0 0, .slice none 0 0, .slice none 0 0], .agg #[.int .i64 0, .slice none 0 0, .slice none 0 0, .slice none 0 0, .slice none 0 0]], []⟩ 8 (by kernel_rfl) (by kernel_rfl) (by kernel_rfl) (by kernel_rfl)) ?_
  intro W base args ds gs before hval hW _ hsz _
  exact contract H enc W base args ds gs before hval hW hsz

theorem holds : Rows.CodeApartSaid :=
  OpenClaim.holds_of_wide 3 Try.f3 rfl rfl rfl rfl rfl rfl rfl ⟨rfl, rfl, rfl, rfl, rfl⟩ rfl rfl rfl rfl rfl (by kernel_rfl) Try.func3 (by kernel_rfl)
    (of_decide_eq_true (by kernel_rfl)) (by unfold Func.isWrapper; first | (rw [if_pos (by decide +kernel)]; kernel_rfl) | (rw [if_neg (by decide +kernel)]; exact ⟨rfl, rfl⟩))
    (fun os started H enc _ => lifted os started H enc)
end Go.Proofs.Ytgpbioljldkmaaa.CodeApart
