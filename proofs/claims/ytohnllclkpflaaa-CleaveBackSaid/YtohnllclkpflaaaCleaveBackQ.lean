/-
  CleaveBack at every input: it returns true, and changes no argument.
-/
import Derived.Test.YtohnllclkpflaaaPqCleaveLaw
import Derived.Test.YtohnllclkpflaaaRows
import Derived.Test.YtohnllclkpflaaaPkAA
import Derived.SizedLaws
import Derived.Lib.SmallJoins

namespace Go.Proofs.Ytohnllclkpflaaa
open Go.RowKit
namespace No
open Mem Lx Bu Lf Fa
set_option maxRecDepth 100000 in
set_option maxHeartbeats 16000000 in
theorem CleaveBack_no (cB cY cF cN cU cL cKy cV : Int) (lo hi : ByteArray) (top : Bool) (n : Nd) (a : At) (W : World) (h : NdIn W n a) (hok : NdOk n) (hno : ¬ Ok ⟨cB, cY, cF, cN, cU, cL, cKy, cV⟩ lo hi top n) : Calls Try.prog 5 #[.agg #[.int .i64 cB, .int .i64 cY, .int .i64 cF, .int .i64 cN, .int .i64 cU, .int .i64 cL, .int .i64 cKy, .int .i64 cV], .agg #[.string lo, .string hi, .bool top], .agg (ndCs n a)] W fun e w' => e = .returned (.bool true) ∧ Below W.heap.size W w' := by
  have cA := fun w => Lib.hid (awake_any w)
  have cR : ∀ w, Below W.heap.size W w → Hid (Calls Try.prog 7 #[.agg #[.int .i64 cB, .int .i64 cY, .int .i64 cF, .int .i64 cN, .int .i64 cU, .int .i64 cL, .int .i64 cKy, .int .i64 cV], .agg #[.string lo, .string hi, .bool top], .agg (ndCs n a)] w fun e w' => e = .returned (.bool false) ∧ Below w.heap.size w w') := fun w hb => right_any ⟨cB, cY, cF, cN, cU, cL, cKy, cV⟩ lo hi top (h.kept hb) hok false ⟨fun e => (by cases e), fun e => absurd e hno⟩
  clear h hok hno
  obtain ⟨lv, K, P, B, Q⟩ := n
  obtain ⟨kA, kc, pA, pc, bA, bc, qA, qc⟩ := a
  unfold ndCs at *
  simp only at *
  generalize K.length = kn at *
  generalize P.length = pn at *
  generalize B.length = bn at *
  generalize Q.length = qn at *
  go_enter Try.func5, Try.ntmps5
  go_upto_region 1 with fail
  have HB := Lib.hid (B3.new W (.cells #[.int .i64 cB, .int .i64 cY, .int .i64 cF, .int .i64 cN, .int .i64 cU, .int .i64 cL, .int .i64 cKy, .int .i64 cV] 23) (.cells #[.string lo, .string hi, .bool top] 25) (.cells #[.int .i64 lv, .slice kA kn kc, .slice pA pn pc, .slice bA bn bc, .slice qA qn qc] 31))
  generalize ((W.alloc (.cells #[.int .i64 cB, .int .i64 cY, .int .i64 cF, .int .i64 cN, .int .i64 cU, .int .i64 cL, .int .i64 cKy, .int .i64 cV] 23)).alloc (.cells #[.string lo, .string hi, .bool top] 25)).alloc (.cells #[.int .i64 lv, .slice kA kn kc, .slice pA pn pc, .slice bA bn bc, .slice qA qn qc] 31) = w1 at *
  obtain ⟨g, hg⟩ : ∃ g, g = W.heap.size := ⟨_, rfl⟩
  rw [← hg] at HB
  simp only [← hg]
  clear hg
  obtain ⟨g0, g1, g2, g3, g4, g5, g6, g7⟩ := box8 HB.out.x
  obtain ⟨e0, e1, e2⟩ := box3 HB.out.y
  obtain ⟨d0, d1, d2, d3, d4⟩ := box5 HB.out.z
  go_wp2_with (first | (go_at_call 7; refine (cR _ HB.out.below).out.mono ?_; rintro e w2 ⟨rfl, hb⟩; replace HB := Lib.hid (HB.out.kept hb); clear hb cR g0 g1 g2 g3 g4 g5 g6 g7 e0 e1 e2 d0 d1 d2 d3 d4; obtain ⟨g0, g1, g2, g3, g4, g5, g6, g7⟩ := box8 HB.out.x; obtain ⟨e0, e1, e2⟩ := box3 HB.out.y; obtain ⟨d0, d1, d2, d3, d4⟩ := box5 HB.out.z) | (go_at_call 8; refine (cA _).out.mono ?_; rintro e w9 ⟨rfl, hb⟩; have HF := Lib.hid (HB.out.kept hb).below; clear hb))
  go_ret
  exact ⟨rfl, HF.out⟩
set_option maxRecDepth 100000 in
set_option maxHeartbeats 16000000 in
theorem CleaveBack_yes (cB cY cF cN cU cL cKy cV : Int) (lo hi : ByteArray) (top : Bool) (n : Nd) (a : At) (W : World) (h : NdIn W n a) (hok : NdOk n) (hyes : Ok ⟨cB, cY, cF, cN, cU, cL, cKy, cV⟩ lo hi top n) : Calls Try.prog 5 #[.agg #[.int .i64 cB, .int .i64 cY, .int .i64 cF, .int .i64 cN, .int .i64 cU, .int .i64 cL, .int .i64 cKy, .int .i64 cV], .agg #[.string lo, .string hi, .bool top], .agg (ndCs n a)] W fun e w' => e = .returned (.bool true) ∧ Below W.heap.size W w' := by
  have cA := fun w => Lib.hid (awake_any w)
  have cR : ∀ w, Below W.heap.size W w → Hid (Calls Try.prog 7 #[.agg #[.int .i64 cB, .int .i64 cY, .int .i64 cF, .int .i64 cN, .int .i64 cU, .int .i64 cL, .int .i64 cKy, .int .i64 cV], .agg #[.string lo, .string hi, .bool top], .agg (ndCs n a)] w fun e w' => e = .returned (.bool true) ∧ Below w.heap.size w w') := fun w hb => right_any ⟨cB, cY, cF, cN, cU, cL, cKy, cV⟩ lo hi top (h.kept hb) hok true ⟨fun _ => hyes, fun _ => rfl⟩
  obtain ⟨hf, hlo, hhi, -, hrn⟩ := hyes
  obtain ⟨H, hH⟩ : ∃ H, H = halfN n := ⟨_, rfl⟩
  have hff := half_fit hrn hf
  have hfm := half_form hrn
  have hno := half_none hrn
  have hbk := half_back hrn
  have hrt := half_right hrn
  have hkd := half_kid hrn hok.kid
  have cH : ∀ w, Below W.heap.size W w → Hid (Calls Try.prog 10 #[.agg (ndCs n a)] w fun e w' => (∃ z1 z2, e = .returned (.tuple #[.agg (ndCs H.1 z1), .agg (ndCs H.2.1 z2), .string H.2.2.1, .bool H.2.2.2]) ∧ NdIn w' H.1 z1 ∧ NdIn w' H.2.1 z2) ∧ Below w.heap.size w w') := fun w hb => (Halve_any (h.kept hb) hrn hf).mono fun e w' ⟨⟨v, he, hv⟩, hb⟩ => by
    rw [← hH] at hv
    obtain ⟨z1, z2, hv, h1, h2⟩ := hv
    exact ⟨⟨z1, z2, by rw [he, hv], h1.in_, h2.in_⟩, hb⟩
  rw [← hH] at hff hfm hno hbk hrt hkd
  have cJ : H.2.2.2 = true → ∀ (w : World) (z1 z2 : At), NdIn w H.1 z1 → NdIn w H.2.1 z2 → Hid (Calls Try.prog 14 #[.agg (ndCs H.1 z1), .string H.2.2.1, .agg (ndCs H.2.1 z2)] w fun e w' => (∃ z, e = .returned (.tuple #[.agg (ndCs n z), .bool true]) ∧ NdIn w' n z) ∧ Below w.heap.size w w') := fun ho w z1 z2 h1 h2 => (Join_any H.2.2.1 h1 h2 hff.1 hff.2.1 hfm.1 hfm.2).mono fun e w' ⟨⟨v, he, hv⟩, hb⟩ => by
    rw [hbk ho] at hv
    obtain ⟨z, hv, hz⟩ := hv
    exact ⟨⟨z, by rw [he, hv], hz⟩, hb⟩
  have cS : ∀ (w : World) (z : At), Below W.heap.size W w → NdIn w n z → Hid (Calls Try.prog 12 #[.agg (ndCs n z), .agg (ndCs n a)] w fun e w' => e = .returned (.bool true) ∧ Below w.heap.size w w') := fun w z hb hz => (RSame_any hz (h.kept hb) hf.sz hf.sz).mono fun e w' ⟨⟨v, he, hv⟩, hb⟩ => ⟨by rw [he, hv.2 rfl], hb⟩
  clear hff hfm hbk hrt hkd hH h hok hf hrn hlo hhi
  obtain ⟨⟨l1, K1, P1, B1, Q1⟩, ⟨l2, K2, P2, B2, Q2⟩, p, ok⟩ := H
  obtain ⟨lv, K, P, B, Q⟩ := n
  obtain ⟨kA, kc, pA, pc, bA, bc, qA, qc⟩ := a
  unfold ndCs at *
  simp only at *
  generalize K.length = kn at *
  generalize P.length = pn at *
  generalize B.length = bn at *
  generalize Q.length = qn at *
  generalize K1.length = k1n at *
  generalize P1.length = p1n at *
  generalize B1.length = b1n at *
  generalize Q1.length = q1n at *
  generalize K2.length = k2n at *
  generalize P2.length = p2n at *
  generalize B2.length = b2n at *
  generalize Q2.length = q2n at *
  go_enter Try.func5, Try.ntmps5
  go_upto_region 1 with fail
  have HB := Lib.hid (B3.new W (.cells #[.int .i64 cB, .int .i64 cY, .int .i64 cF, .int .i64 cN, .int .i64 cU, .int .i64 cL, .int .i64 cKy, .int .i64 cV] 23) (.cells #[.string lo, .string hi, .bool top] 25) (.cells #[.int .i64 lv, .slice kA kn kc, .slice pA pn pc, .slice bA bn bc, .slice qA qn qc] 31))
  generalize ((W.alloc (.cells #[.int .i64 cB, .int .i64 cY, .int .i64 cF, .int .i64 cN, .int .i64 cU, .int .i64 cL, .int .i64 cKy, .int .i64 cV] 23)).alloc (.cells #[.string lo, .string hi, .bool top] 25)).alloc (.cells #[.int .i64 lv, .slice kA kn kc, .slice pA pn pc, .slice bA bn bc, .slice qA qn qc] 31) = w1 at *
  obtain ⟨g, hg⟩ : ∃ g, g = W.heap.size := ⟨_, rfl⟩
  rw [← hg] at HB
  simp only [← hg]
  clear hg
  obtain ⟨g0, g1, g2, g3, g4, g5, g6, g7⟩ := box8 HB.out.x
  obtain ⟨e0, e1, e2⟩ := box3 HB.out.y
  obtain ⟨d0, d1, d2, d3, d4⟩ := box5 HB.out.z
  go_upto_region 4 with (first | (go_at_call 7; refine (cR _ HB.out.below).out.mono ?_; rintro e w2 ⟨rfl, hb⟩; replace HB := Lib.hid (HB.out.kept hb); clear hb cR g0 g1 g2 g3 g4 g5 g6 g7 e0 e1 e2 d0 d1 d2 d3 d4; obtain ⟨g0, g1, g2, g3, g4, g5, g6, g7⟩ := box8 HB.out.x; obtain ⟨e0, e1, e2⟩ := box3 HB.out.y; obtain ⟨d0, d1, d2, d3, d4⟩ := box5 HB.out.z) | (go_at_call 10; refine (cH _ HB.out.below).out.mono ?_; rintro e w3 ⟨⟨z1, z2, rfl, hz1, hz2⟩, hb⟩; have HZ1 := Lib.hid hz1; have HZ2 := Lib.hid hz2; replace HB := Lib.hid (HB.out.kept hb); clear hz1 hz2 hb cH g0 g1 g2 g3 g4 g5 g6 g7 e0 e1 e2 d0 d1 d2 d3 d4; obtain ⟨g0, g1, g2, g3, g4, g5, g6, g7⟩ := box8 HB.out.x; obtain ⟨e0, e1, e2⟩ := box3 HB.out.y; obtain ⟨d0, d1, d2, d3, d4⟩ := box5 HB.out.z))
  clear g0 g1 g2 g3 g4 g5 g6 g7 e0 e1 e2 d0 d1 d2 d3 d4
  have h2n := two_new w3 (.cells #[.int .i64 l1, .slice z1.kA k1n z1.kc, .slice z1.pA p1n z1.pc, .slice z1.bA b1n z1.bc, .slice z1.qA q1n z1.qc] 31) (.cells #[.int .i64 l2, .slice z2.kA k2n z2.kc, .slice z2.pA p2n z2.pc, .slice z2.bA b2n z2.bc, .slice z2.qA q2n z2.qc] 31)
  generalize (w3.alloc (.cells #[.int .i64 l1, .slice z1.kA k1n z1.kc, .slice z1.pA p1n z1.pc, .slice z1.bA b1n z1.bc, .slice z1.qA q1n z1.qc] 31)).alloc (.cells #[.int .i64 l2, .slice z2.kA k2n z2.kc, .slice z2.pA p2n z2.pc, .slice z2.bA b2n z2.bc, .slice z2.qA q2n z2.qc] 31) = w4 at *
  obtain ⟨ha, hb, hbl⟩ := h2n
  obtain ⟨qw4, hq⟩ : ∃ q, q = w3.heap.size := ⟨_, rfl⟩
  simp only [← hq] at ha hb ⊢
  clear hq
  have HA := Lib.hid ha
  have HC := Lib.hid hb
  replace HZ1 := Lib.hid (HZ1.out.kept hbl)
  replace HZ2 := Lib.hid (HZ2.out.kept hbl)
  replace HB := Lib.hid (HB.out.kept hbl)
  clear ha hb hbl
  obtain ⟨g0, g1, g2, g3, g4, g5, g6, g7⟩ := box8 HB.out.x
  obtain ⟨e0, e1, e2⟩ := box3 HB.out.y
  obtain ⟨d0, d1, d2, d3, d4⟩ := box5 HB.out.z
  cases ok with
  | false =>
    clear cJ cS
    rcases hno rfl with ⟨hl, h2⟩ | ⟨hl, h2⟩
    · subst hl
      go_wp2_with (go_at_call 8; refine (cA _).out.mono ?_; rintro e w9 ⟨rfl, hb⟩; have HF := Lib.hid (HB.out.kept hb).below; clear hb)
      go_ret
      exact ⟨rfl, HF.out⟩
    · have hl2 : (lv == 0) = false := by simp; omega
      go_wp2_with (go_at_call 8; refine (cA _).out.mono ?_; rintro e w9 ⟨rfl, hb⟩; have HF := Lib.hid (HB.out.kept hb).below; clear hb)
      go_ret
      exact ⟨rfl, HF.out⟩
  | true =>
    replace cJ := cJ rfl w4 z1 z2 HZ1.out HZ2.out
    clear hno
    obtain ⟨u0, u1, u2, u3, u4⟩ := box5 HA.out
    obtain ⟨v0, v1, v2, v3, v4⟩ := box5 HC.out
    go_upto_region 7 with (go_at_call 14; refine cJ.out.mono ?_; rintro e w5 ⟨⟨z3, rfl, hz3⟩, hb⟩; have HZ3 := Lib.hid hz3; replace HB := Lib.hid (HB.out.kept hb); clear hz3 hb cJ g0 g1 g2 g3 g4 g5 g6 g7 e0 e1 e2 d0 d1 d2 d3 d4)
    clear u0 u1 u2 u3 u4 v0 v1 v2 v3 v4 HZ1 HZ2 HA HC
    have hm := heap_alloc_new w5 (.cells #[.int .i64 lv, .slice z3.kA kn z3.kc, .slice z3.pA pn z3.pc, .slice z3.bA bn z3.bc, .slice z3.qA qn z3.qc] 31)
    have hbl : Below w5.heap.size w5 (w5.alloc (.cells #[.int .i64 lv, .slice z3.kA kn z3.kc, .slice z3.pA pn z3.pc, .slice z3.bA bn z3.bc, .slice z3.qA qn z3.qc] 31)) := (Below.refl _ _).alloc (Nat.le_refl _) _
    generalize w5.alloc (.cells #[.int .i64 lv, .slice z3.kA kn z3.kc, .slice z3.pA pn z3.pc, .slice z3.bA bn z3.bc, .slice z3.qA qn z3.qc] 31) = w6 at *
    obtain ⟨m, hmm⟩ : ∃ m, m = w5.heap.size := ⟨_, rfl⟩
    simp only [← hmm] at hm ⊢
    clear hmm
    replace HZ3 := Lib.hid (HZ3.out.kept hbl)
    replace HB := Lib.hid (HB.out.kept hbl)
    clear hbl
    obtain ⟨m0, m1, m2, m3, m4⟩ := box5 hm
    obtain ⟨d0, d1, d2, d3, d4⟩ := box5 HB.out.z
    replace cS := cS w6 z3 HB.out.below HZ3.out
    clear hm
    go_wp2_with (first | (go_at_call 12; refine cS.out.mono ?_; rintro e w7 ⟨rfl, hb⟩; replace HB := Lib.hid (HB.out.kept hb); clear hb cS) | (go_at_call 8; refine (cA _).out.mono ?_; rintro e w9 ⟨rfl, hb⟩; have HF := Lib.hid (HB.out.kept hb).below; clear hb))
    go_ret
    exact ⟨rfl, HF.out⟩
theorem CleaveBack_walk (cB cY cF cN cU cL cKy cV : Int) (lo hi : ByteArray) (top : Bool) (n : Nd) (a : At) (W : World) (h : NdIn W n a) (hok : NdOk n) : Calls Try.prog 5 #[.agg #[.int .i64 cB, .int .i64 cY, .int .i64 cF, .int .i64 cN, .int .i64 cU, .int .i64 cL, .int .i64 cKy, .int .i64 cV], .agg #[.string lo, .string hi, .bool top], .agg (ndCs n a)] W fun e w' => e = .returned (.bool true) ∧ Below W.heap.size W w' := by
  by_cases hc : Ok ⟨cB, cY, cF, cN, cU, cL, cKy, cV⟩ lo hi top n
  · exact CleaveBack_yes cB cY cF cN cU cL cKy cV lo hi top n a W h hok hc
  · exact CleaveBack_no cB cY cF cN cU cL cKy cV lo hi top n a W h hok hc
end No
end Go.Proofs.Ytohnllclkpflaaa

namespace Go.Proofs.Ytohnllclkpflaaa.CleaveBack
open Go.ChangeShapes Go.WideShapes Go.ChangeAt Go.RowKit
open Go.ChangeMaps (open_string shut_string)

theorem own : ownKnob Try.prog.godebug = none := by kernel_rfl

set_option maxRecDepth 100000 in
theorem contract (H : Type) (enc : TypeId × Value → H) (W : World) (base : Nat) (args : Array Value) (ds gs : List (DataW H)) (before : List MemPlace)
    (hval : ∀ (j : Nat) t v, Try.f5.params[j]? = some t → args[j]? = some v → Value.okWide Try.prog W .any base t v)
    (hW : DataW.Whole enc Try.prog Try.f5.params.toList Rows.cleaveBackSpec.vars false W args.toList ds gs before)
    (hsz : (DataW.weightsEach Try.prog (Try.f5.params.toList ++ Rows.cleaveBackSpec.plain.varTypes Try.prog) (ds ++ gs)).all (· ≤ reachBytes) = true) :
    Calls Try.prog 5 args W fun e W' => ∃ v, e = .returned v ∧ Rows.cleaveBackSpec.post enc Try.prog Try.f5 false true false false W args v W' := by
  have hW' := hW
  obtain ⟨p, q, hA0, hV, rfl, hfz, hnd⟩ := hW
  have hA : DataW.TrodAll enc Try.prog W 0 (fun _ => true) true Try.f5.params.toList args.toList ds p := hA0
  rw [Try.params5] at hA hval
  obtain ⟨v0, vs0, d0, ds0, p0, q0, hargs0, rfl, rfl, h0, r0⟩ := trodAll_cons hA
  obtain ⟨v1, vs1, d1, ds1, p1, q1, hargs1, rfl, rfl, h1, r1⟩ := trodAll_cons r0
  obtain ⟨v2, vs2, d2, ds2, p2, q2, hargs2, rfl, rfl, h2, r2⟩ := trodAll_cons r1
  obtain ⟨rfl, rfl, rfl⟩ := trodAll_nil r2
  obtain rfl : args = #[v0, v1, v2] := by cases args; simp_all
  obtain ⟨rfl, rfl⟩ := trodVars_none hV
  obtain ⟨cB, cY, cF, cN, cU, cL, cKy, cV, rfl⟩ := Cf.open_cfg (hval 0 23 v0 rfl rfl) h0
  obtain ⟨x1, x1', x1'', y1, y1', y1'', k1, rfl, rfl, rfl, t1, t1', t1''⟩ := Go.Joins.open_agg3 Try.underlying25 (by kernel_rfl) (by kernel_rfl) (hval 1 25 v1 rfl rfl) h1
  obtain ⟨lo, e1, rfl, mlo⟩ := DataW.trod_string Try.underlying9 t1
  obtain ⟨hi, e1', rfl, mhi⟩ := DataW.trod_string Try.underlying9 t1'
  obtain ⟨top, e1'', rfl⟩ := DataW.trod_bool Try.underlying4 t1''
  obtain rfl : x1 = _ := by simpa using e1
  obtain rfl : x1' = _ := by simpa using e1'
  obtain rfl : x1'' = _ := by simpa using e1''
  have zn : ∀ n ∈ d2.weights Try.prog 31, n ≤ reachBytes := fun n hn => by
    have := List.all_eq_true.1 hsz n (DataW.weights_mem_each (j := 2) (by rw [Try.params5]; rfl) rfl n hn)
    simpa using this
  obtain ⟨n, An, rfl, hn, bn⟩ := No.open_node (hval 2 31 v2 rfl rfl) h2 zn
  clear hA0
  simp only [List.append_nil] at hW'
  refine (No.CleaveBack_walk cB cY cF cN cU cL cKy cV lo hi top n An W hn bn).mono fun e W' ⟨he, hg⟩ => ?_
  subst he
  exact ⟨_, rfl, Post.law_post (by kernel_rfl) (by kernel_rfl) hW' rfl rfl rfl Try.underlying4 hg⟩

set_option maxRecDepth 100000 in
theorem lifted (os : Os) (started : os.Started) (H : Type) (enc : TypeId × Value → H) :
    ReturnsInHanded {} Try.checked os 5 .any (Rows.cleaveBackSpec.pre6 enc Try.prog Try.f5 Rows.cleaveBackRow.domain false) (Rows.cleaveBackSpec.post enc Try.prog Try.f5 false true false false) := by
  refine returnsInHanded_of_change_sized (C := Try.checked) own started (by kernel_rfl) Try.func5
    (ChangeSpec.witness6 (enc := enc) (C := Try.checked) false ⟨#[], #[.agg #[.int .i64 0, .int .i64 0, .int .i64 0, .int .i64 0, .int .i64 0, .int .i64 0, .int .i64 0, .int .i64 0], .agg #[.string .empty, .string .empty, .bool false], .agg #[.int .i64 0, .slice none 0 0, .slice none 0 0, .slice none 0 0, .slice none 0 0]], []⟩ 8 (by kernel_rfl) (by kernel_rfl) (by kernel_rfl) (by kernel_rfl)) ?_
  intro W base args ds gs before hval hW _ hsz _
  exact contract H enc W base args ds gs before hval hW hsz

theorem holds : Rows.CleaveBackSaid :=
  OpenClaim.holds_of_wide 5 Try.f5 rfl rfl rfl rfl rfl rfl rfl ⟨rfl, rfl, rfl, rfl, rfl⟩ rfl rfl rfl rfl rfl (by kernel_rfl) Try.func5 (by kernel_rfl)
    (of_decide_eq_true (by kernel_rfl)) (by unfold Func.isWrapper; first | (rw [if_pos (by decide +kernel)]; kernel_rfl) | (rw [if_neg (by decide +kernel)]; exact ⟨rfl, rfl⟩))
    (fun os started H enc _ => lifted os started H enc)
end Go.Proofs.Ytohnllclkpflaaa.CleaveBack
