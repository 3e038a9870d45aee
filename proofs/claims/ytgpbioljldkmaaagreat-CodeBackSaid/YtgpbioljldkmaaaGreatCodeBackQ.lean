/-
  CodeBack: for all settings and any node what was written is read as it was, and with one byte turned it is another node, or none.
-/
import Derived.Test.YtgpbioljldkmaaaGreatPkBJ
import Derived.Test.YtgpbioljldkmaaaGreatPqDrift
import Derived.Test.YtgpbioljldkmaaaGreatRows
import Derived.Test.YtgpbioljldkmaaaGreatPkAC
import Derived.Test.YtgpbioljldkmaaaGreatPkAB
import Derived.SizedLaws
import Derived.Lib.SmallJoins

namespace Go.Proofs.YtgpbioljldkmaaaGreat
open Go.RowKit
namespace No
open Mem Lx Bu Lf Fa
set_option maxRecDepth 100000 in
set_option maxHeartbeats 16000000 in
theorem CodeBack_heavy (cB cY cF cN cU cL cKy cV : Int) (n : Nd) (a : At) (at_ by_ : Nat) (W : World) (_ : NdIn W n a) (_ : NdOk n) (_ : at_ < 65536) (_ : by_ < 256) (hl : ¬ cY ≤ 3000) : Calls Tryz.prog 5 #[.agg #[.int .i64 cB, .int .i64 cY, .int .i64 cF, .int .i64 cN, .int .i64 cU, .int .i64 cL, .int .i64 cKy, .int .i64 cV], .agg (ndCs n a), .int .u16 (at_ : Int), .int .u8 (by_ : Int)] W fun e w' => e = .returned (.bool true) ∧ Below W.heap.size W w' := by
  have cA := fun w => Lib.hid (CAwake_any w)
  have cLi : ∀ w, Hid (Calls Tryz.prog 6 #[.agg #[.int .i64 cB, .int .i64 cY, .int .i64 cF, .int .i64 cN, .int .i64 cU, .int .i64 cL, .int .i64 cKy, .int .i64 cV]] w fun e w' => e = .returned (.bool false) ∧ Below w.heap.size w w') := fun w => (Light_any ⟨cB, cY, cF, cN, cU, cL, cKy, cV⟩ w).mono fun e w' ⟨he, hb⟩ => ⟨by rw [he, decide_eq_false hl], hb⟩
  clear hl
  obtain ⟨lv, K, P, B, Q⟩ := n
  obtain ⟨kA, kc, pA, pc, bA, bc, qA, qc⟩ := a
  unfold ndCs at *
  simp only at *
  generalize K.length = kn at *
  generalize P.length = pn at *
  generalize B.length = bn at *
  generalize Q.length = qn at *
  go_enter Tryz.func5, Tryz.ntmps5
  go_upto_region 1 with fail
  have HB := Lib.hid (Bx2.new W (.cells #[.int .i64 cB, .int .i64 cY, .int .i64 cF, .int .i64 cN, .int .i64 cU, .int .i64 cL, .int .i64 cKy, .int .i64 cV] 23) (.cells #[.int .i64 lv, .slice kA kn kc, .slice pA pn pc, .slice bA bn bc, .slice qA qn qc] 29))
  generalize (W.alloc (.cells #[.int .i64 cB, .int .i64 cY, .int .i64 cF, .int .i64 cN, .int .i64 cU, .int .i64 cL, .int .i64 cKy, .int .i64 cV] 23)).alloc (.cells #[.int .i64 lv, .slice kA kn kc, .slice pA pn pc, .slice bA bn bc, .slice qA qn qc] 29) = w1 at *
  obtain ⟨g, hg⟩ : ∃ g, g = W.heap.size := ⟨_, rfl⟩
  rw [← hg] at HB
  simp only [← hg]
  clear hg
  obtain ⟨g0, g1, g2, g3, g4, g5, g6, g7⟩ := box8 HB.out.x
  obtain ⟨d0, d1, d2, d3, d4⟩ := box5 HB.out.y
  go_wp2_with (first | (go_at_call 6; refine (cLi _).out.mono ?_; rintro e w2 ⟨rfl, hb⟩; replace HB := Lib.hid (HB.out.kept hb); clear hb cLi g0 g1 g2 g3 g4 g5 g6 g7 d0 d1 d2 d3 d4; obtain ⟨g0, g1, g2, g3, g4, g5, g6, g7⟩ := box8 HB.out.x; obtain ⟨d0, d1, d2, d3, d4⟩ := box5 HB.out.y) | (go_at_call 8; refine (cA _).out.mono ?_; rintro e w9 ⟨rfl, hb⟩; have HF := Lib.hid (HB.out.kept hb).below; clear hb))
  go_ret
  exact ⟨rfl, HF.out⟩
set_option maxRecDepth 100000 in
set_option maxHeartbeats 16000000 in
theorem CodeBack_great (cB cY cF cN cU cL cKy cV : Int) (n : Nd) (a : At) (at_ by_ : Nat) (W : World) (h : NdIn W n a) (hok : NdOk n) (_ : at_ < 65536) (_ : by_ < 256) (hl : cY ≤ 3000) (hg : ¬ Fit n) : Calls Tryz.prog 5 #[.agg #[.int .i64 cB, .int .i64 cY, .int .i64 cF, .int .i64 cN, .int .i64 cU, .int .i64 cL, .int .i64 cKy, .int .i64 cV], .agg (ndCs n a), .int .u16 (at_ : Int), .int .u8 (by_ : Int)] W fun e w' => e = .returned (.bool true) ∧ Below W.heap.size W w' := by
  have cA := fun w => Lib.hid (CAwake_any w)
  have cLi : ∀ w, Hid (Calls Tryz.prog 6 #[.agg #[.int .i64 cB, .int .i64 cY, .int .i64 cF, .int .i64 cN, .int .i64 cU, .int .i64 cL, .int .i64 cKy, .int .i64 cV]] w fun e w' => e = .returned (.bool true) ∧ Below w.heap.size w w') := fun w => (Light_any ⟨cB, cY, cF, cN, cU, cL, cKy, cV⟩ w).mono fun e w' ⟨he, hb⟩ => ⟨by rw [he, decide_eq_true hl], hb⟩
  have cGr : ∀ w, Below W.heap.size W w → Hid (Calls Tryz.prog 7 #[.agg (ndCs n a)] w fun e w' => e = .returned (.bool true) ∧ Below w.heap.size w w') := fun w hb => (Great_any (h.kept hb) hok).mono fun e w' ⟨⟨v, he, hv⟩, hb⟩ => ⟨by
    rw [he]
    cases v <;> simp_all, hb⟩
  clear h hok hl hg
  obtain ⟨lv, K, P, B, Q⟩ := n
  obtain ⟨kA, kc, pA, pc, bA, bc, qA, qc⟩ := a
  unfold ndCs at *
  simp only at *
  generalize K.length = kn at *
  generalize P.length = pn at *
  generalize B.length = bn at *
  generalize Q.length = qn at *
  go_enter Tryz.func5, Tryz.ntmps5
  go_upto_region 1 with fail
  have HB := Lib.hid (Bx2.new W (.cells #[.int .i64 cB, .int .i64 cY, .int .i64 cF, .int .i64 cN, .int .i64 cU, .int .i64 cL, .int .i64 cKy, .int .i64 cV] 23) (.cells #[.int .i64 lv, .slice kA kn kc, .slice pA pn pc, .slice bA bn bc, .slice qA qn qc] 29))
  generalize (W.alloc (.cells #[.int .i64 cB, .int .i64 cY, .int .i64 cF, .int .i64 cN, .int .i64 cU, .int .i64 cL, .int .i64 cKy, .int .i64 cV] 23)).alloc (.cells #[.int .i64 lv, .slice kA kn kc, .slice pA pn pc, .slice bA bn bc, .slice qA qn qc] 29) = w1 at *
  obtain ⟨g, hg⟩ : ∃ g, g = W.heap.size := ⟨_, rfl⟩
  rw [← hg] at HB
  simp only [← hg]
  clear hg
  obtain ⟨g0, g1, g2, g3, g4, g5, g6, g7⟩ := box8 HB.out.x
  obtain ⟨d0, d1, d2, d3, d4⟩ := box5 HB.out.y
  go_wp2_with (first | (go_at_call 6; refine (cLi _).out.mono ?_; rintro e w2 ⟨rfl, hb⟩; replace HB := Lib.hid (HB.out.kept hb); clear hb cLi g0 g1 g2 g3 g4 g5 g6 g7 d0 d1 d2 d3 d4; obtain ⟨g0, g1, g2, g3, g4, g5, g6, g7⟩ := box8 HB.out.x; obtain ⟨d0, d1, d2, d3, d4⟩ := box5 HB.out.y) | (go_at_call 7; refine (cGr _ HB.out.below).out.mono ?_; rintro e w3 ⟨rfl, hb⟩; replace HB := Lib.hid (HB.out.kept hb); clear hb cGr g0 g1 g2 g3 g4 g5 g6 g7 d0 d1 d2 d3 d4; obtain ⟨g0, g1, g2, g3, g4, g5, g6, g7⟩ := box8 HB.out.x; obtain ⟨d0, d1, d2, d3, d4⟩ := box5 HB.out.y) | (go_at_call 8; refine (cA _).out.mono ?_; rintro e w9 ⟨rfl, hb⟩; have HF := Lib.hid (HB.out.kept hb).below; clear hb))
  go_ret
  exact ⟨rfl, HF.out⟩
set_option maxRecDepth 100000 in
set_option maxHeartbeats 16000000 in
theorem CodeBack_none (cB cY cF cN cU cL cKy cV : Int) (n : Nd) (a : At) (at_ by_ : Nat) (W : World) (h : NdIn W n a) (hok : NdOk n) (_ : at_ < 65536) (_ : by_ < 256) (hl : cY ≤ 3000) (hg : Fit n) (s : List UInt8) (f : Int) (hs : EncP ⟨cB, cY, cF, cN, cU, cL, cKy, cV⟩ n s f) (hf : f ≠ 0) : Calls Tryz.prog 5 #[.agg #[.int .i64 cB, .int .i64 cY, .int .i64 cF, .int .i64 cN, .int .i64 cU, .int .i64 cL, .int .i64 cKy, .int .i64 cV], .agg (ndCs n a), .int .u16 (at_ : Int), .int .u8 (by_ : Int)] W fun e w' => e = .returned (.bool true) ∧ Below W.heap.size W w' := by
  have cA := fun w => Lib.hid (CAwake_any w)
  have cLi : ∀ w, Hid (Calls Tryz.prog 6 #[.agg #[.int .i64 cB, .int .i64 cY, .int .i64 cF, .int .i64 cN, .int .i64 cU, .int .i64 cL, .int .i64 cKy, .int .i64 cV]] w fun e w' => e = .returned (.bool true) ∧ Below w.heap.size w w') := fun w => (Light_any ⟨cB, cY, cF, cN, cU, cL, cKy, cV⟩ w).mono fun e w' ⟨he, hb⟩ => ⟨by rw [he, decide_eq_true hl], hb⟩
  have cGr : ∀ w, Below W.heap.size W w → Hid (Calls Tryz.prog 7 #[.agg (ndCs n a)] w fun e w' => e = .returned (.bool false) ∧ Below w.heap.size w w') := fun w hb => (Great_any (h.kept hb) hok).mono fun e w' ⟨⟨v, he, hv⟩, hb⟩ => ⟨by
    rw [he]
    cases v <;> simp_all, hb⟩
  have cE : ∀ w, Below W.heap.size W w → Hid (Calls Tryz.prog 9 #[.agg #[.int .i64 cB, .int .i64 cY, .int .i64 cF, .int .i64 cN, .int .i64 cU, .int .i64 cL, .int .i64 cKy, .int .i64 cV], .agg (ndCs n a)] w fun e w' => (∃ A cap, e = .returned (.tuple #[.slice A s.length cap, .int .i64 f]) ∧ FrB w' w.heap.size A s ∧ s.length ≤ cap) ∧ Below w.heap.size w w') := fun w hb => Encode_c ⟨cB, cY, cF, cN, cU, cL, cKy, cV⟩ (h.kept hb) hg.sz hg.kids hok.kid hl hs
  have hno : ¬ RightA ⟨cB, cY, cF, cN, cU, cL, cKy, cV⟩ n := by
    rcases hs with ⟨h9, -, -⟩ | ⟨-, h9, -, -⟩ | ⟨-, -, h9⟩
    · exact fun h8 => h9 h8.1
    · exact h9
    · exact absurd h9 hf
  have cR : ∀ w, Below W.heap.size W w → Hid (Calls Tryz.prog 14 #[.agg #[.int .i64 cB, .int .i64 cY, .int .i64 cF, .int .i64 cN, .int .i64 cU, .int .i64 cL, .int .i64 cKy, .int .i64 cV], .agg (ndCs n a)] w fun e w' => e = .returned (.bool false) ∧ Below w.heap.size w w') := fun w hb => CRight_any ⟨cB, cY, cF, cN, cU, cL, cKy, cV⟩ (h.kept hb) hg.sz hok.kid false ⟨fun e => (by cases e), fun e => absurd e hno⟩
  have hf1 : (f != 0) = true := by simpa using hf
  clear h hok hl hg hs hf hno
  generalize s.length = sl at *
  obtain ⟨lv, K, P, B, Q⟩ := n
  obtain ⟨kA, kc, pA, pc, bA, bc, qA, qc⟩ := a
  unfold ndCs at *
  simp only at *
  generalize K.length = kn at *
  generalize P.length = pn at *
  generalize B.length = bn at *
  generalize Q.length = qn at *
  go_enter Tryz.func5, Tryz.ntmps5
  go_upto_region 1 with fail
  have HB := Lib.hid (Bx2.new W (.cells #[.int .i64 cB, .int .i64 cY, .int .i64 cF, .int .i64 cN, .int .i64 cU, .int .i64 cL, .int .i64 cKy, .int .i64 cV] 23) (.cells #[.int .i64 lv, .slice kA kn kc, .slice pA pn pc, .slice bA bn bc, .slice qA qn qc] 29))
  generalize (W.alloc (.cells #[.int .i64 cB, .int .i64 cY, .int .i64 cF, .int .i64 cN, .int .i64 cU, .int .i64 cL, .int .i64 cKy, .int .i64 cV] 23)).alloc (.cells #[.int .i64 lv, .slice kA kn kc, .slice pA pn pc, .slice bA bn bc, .slice qA qn qc] 29) = w1 at *
  obtain ⟨g, hg⟩ : ∃ g, g = W.heap.size := ⟨_, rfl⟩
  rw [← hg] at HB
  simp only [← hg]
  clear hg
  obtain ⟨g0, g1, g2, g3, g4, g5, g6, g7⟩ := box8 HB.out.x
  obtain ⟨d0, d1, d2, d3, d4⟩ := box5 HB.out.y
  go_wp2_with (first
    | (go_at_call 6; refine (cLi _).out.mono ?_; rintro e w2 ⟨rfl, hb⟩; replace HB := Lib.hid (HB.out.kept hb); clear hb cLi g0 g1 g2 g3 g4 g5 g6 g7 d0 d1 d2 d3 d4; obtain ⟨g0, g1, g2, g3, g4, g5, g6, g7⟩ := box8 HB.out.x; obtain ⟨d0, d1, d2, d3, d4⟩ := box5 HB.out.y)
    | (go_at_call 7; refine (cGr _ HB.out.below).out.mono ?_; rintro e w3 ⟨rfl, hb⟩; replace HB := Lib.hid (HB.out.kept hb); clear hb cGr g0 g1 g2 g3 g4 g5 g6 g7 d0 d1 d2 d3 d4; obtain ⟨g0, g1, g2, g3, g4, g5, g6, g7⟩ := box8 HB.out.x; obtain ⟨d0, d1, d2, d3, d4⟩ := box5 HB.out.y)
    | (go_at_call 9; refine (cE _ HB.out.below).out.mono ?_; rintro e w4 ⟨⟨A, cap, rfl, hf, -⟩, hb⟩; clear hf; replace HB := Lib.hid (HB.out.kept hb); clear hb cE g0 g1 g2 g3 g4 g5 g6 g7 d0 d1 d2 d3 d4; obtain ⟨g0, g1, g2, g3, g4, g5, g6, g7⟩ := box8 HB.out.x; obtain ⟨d0, d1, d2, d3, d4⟩ := box5 HB.out.y)
    | (go_at_call 14; refine (cR _ HB.out.below).out.mono ?_; rintro e w5 ⟨rfl, hb⟩; replace HB := Lib.hid (HB.out.kept hb); clear hb cR g0 g1 g2 g3 g4 g5 g6 g7 d0 d1 d2 d3 d4; obtain ⟨g0, g1, g2, g3, g4, g5, g6, g7⟩ := box8 HB.out.x; obtain ⟨d0, d1, d2, d3, d4⟩ := box5 HB.out.y)
    | (go_at_call 8; refine (cA _).out.mono ?_; rintro e w9 ⟨rfl, hb⟩; have HF := Lib.hid (HB.out.kept hb).below; clear hb))
  go_ret
  exact ⟨rfl, HF.out⟩
/-- what the bytes behind one that is turned tell -/
theorem turned {c : Cfg} {n : Nd} (hr : RightA c n) {k : Nat} {y : UInt8} (hk : k < (blockL c n).length) {x : Nd} {f : Int} (hd : DecP c ((blockL c n).set k y) x f) :
    (y = (blockL c n)[k] ∧ x = n ∧ f = 0) ∨ (y ≠ (blockL c n)[k] ∧ x ≠ n ∧ f = 0) ∨ (y ≠ (blockL c n)[k] ∧ f = 12) := by
  by_cases e : y = (blockL c n)[k]
  · subst e
    rw [List.set_getElem_self] at hd
    obtain ⟨h1, h2⟩ := hd.one (.inr (.inr ⟨hr, rfl, rfl⟩))
    exact .inl ⟨rfl, h1, h2⟩
  · have hne : (blockL c n).set k y ≠ blockL c n := fun h => by
      have h1 : ((blockL c n).set k y)[k]? = (blockL c n)[k]? := by rw [h]
      rw [List.getElem?_set_self hk, List.getElem?_eq_getElem hk] at h1
      exact e (by simpa using h1)
    rcases hd with ⟨h9, -, -⟩ | ⟨-, -, -, h9⟩ | ⟨h7, h8, h9⟩
    · exact absurd hr.1 h9
    · exact .inr (.inr ⟨e, h9⟩)
    · refine .inr (.inl ⟨e, fun h => hne ?_, h9⟩)
      rw [← h8, h]
set_option maxRecDepth 100000 in
set_option maxHeartbeats 16000000 in
theorem CodeBack_yes (cB cY cF cN cU cL cKy cV : Int) (n : Nd) (a : At) (at_ by_ : Nat) (W : World) (h : NdIn W n a) (hok : NdOk n) (hat : at_ < 65536) (hby : by_ < 256) (hl : cY ≤ 3000) (hg : Fit n) (hr : RightA ⟨cB, cY, cF, cN, cU, cL, cKy, cV⟩ n) : Calls Tryz.prog 5 #[.agg #[.int .i64 cB, .int .i64 cY, .int .i64 cF, .int .i64 cN, .int .i64 cU, .int .i64 cL, .int .i64 cKy, .int .i64 cV], .agg (ndCs n a), .int .u16 (at_ : Int), .int .u8 (by_ : Int)] W fun e w' => e = .returned (.bool true) ∧ Below W.heap.size W w' := by
  have cA := fun w => Lib.hid (CAwake_any w)
  have cLi : ∀ w, Hid (Calls Tryz.prog 6 #[.agg #[.int .i64 cB, .int .i64 cY, .int .i64 cF, .int .i64 cN, .int .i64 cU, .int .i64 cL, .int .i64 cKy, .int .i64 cV]] w fun e w' => e = .returned (.bool true) ∧ Below w.heap.size w w') := fun w => (Light_any ⟨cB, cY, cF, cN, cU, cL, cKy, cV⟩ w).mono fun e w' ⟨he, hb⟩ => ⟨by rw [he, decide_eq_true hl], hb⟩
  have cGr : ∀ w, Below W.heap.size W w → Hid (Calls Tryz.prog 7 #[.agg (ndCs n a)] w fun e w' => e = .returned (.bool false) ∧ Below w.heap.size w w') := fun w hb => (Great_any (h.kept hb) hok).mono fun e w' ⟨⟨v, he, hv⟩, hb⟩ => ⟨by
    rw [he]
    cases v <;> simp_all, hb⟩
  obtain ⟨s, hse⟩ : ∃ s, s = blockL ⟨cB, cY, cF, cN, cU, cL, cKy, cV⟩ n := ⟨_, rfl⟩
  obtain ⟨f, hfe⟩ : ∃ f : Int, f = 0 := ⟨_, rfl⟩
  have hs : EncP ⟨cB, cY, cF, cN, cU, cL, cKy, cV⟩ n s f := .inr (.inr ⟨hr, hse, hfe⟩)
  have cE : ∀ w, Below W.heap.size W w → Hid (Calls Tryz.prog 9 #[.agg #[.int .i64 cB, .int .i64 cY, .int .i64 cF, .int .i64 cN, .int .i64 cU, .int .i64 cL, .int .i64 cKy, .int .i64 cV], .agg (ndCs n a)] w fun e w' => (∃ A cap, e = .returned (.tuple #[.slice A s.length cap, .int .i64 f]) ∧ FrB w' w.heap.size A s ∧ s.length ≤ cap) ∧ Below w.heap.size w w') := fun w hb => Encode_c ⟨cB, cY, cF, cN, cU, cL, cKy, cV⟩ (h.kept hb) hg.sz hg.kids hok.kid hl hs
  rw [hfe] at cE
  have hlen := (block_cand hr).1
  rw [← hse] at hlen
  have hcy : 64 ≤ cY := by
    obtain ⟨F, B, L, K, V, hs⟩ := set_ok hr.1
    exact hs.bytes.1
  simp only at hlen
  obtain ⟨sl, hsl⟩ : ∃ sl, sl = s.length := ⟨_, rfl⟩
  have hcs : cY = (sl : Int) := by omega
  obtain ⟨k, hk⟩ : ∃ k, k = at_ % sl := ⟨_, rfl⟩
  have hks : k < s.length := by
    rw [hk, ← hsl]
    exact Nat.mod_lt _ (by omega)
  obtain ⟨x8, hx8⟩ : ∃ x, x = s[k] := ⟨_, rfl⟩
  obtain ⟨y8, hy8⟩ : ∃ y : UInt8, y = x8 + UInt8.ofNat by_ := ⟨_, rfl⟩
  have hyv : (y8.toNat : Int) = ((x8.toNat : Int) + (by_ : Int)) % 256 := by
    rw [hy8, UInt8.toNat_add, UInt8.toNat_ofNat']
    have := x8.toNat_lt
    omega
  have hyx : y8 = x8 ↔ by_ = 0 := by
    rw [← UInt8.toNat_inj]
    have := x8.toNat_lt
    have := y8.toNat_lt
    omega
  obtain ⟨x, f2, hd⟩ := DecP.some ⟨cB, cY, cF, cN, cU, cL, cKy, cV⟩ (s.set k y8)
  have hl2 : (s.set k y8).length = sl := by rw [List.length_set, hsl]
  have hsm := hd.small (by omega)
  have htn := turned hr (k := k) (y := y8) (x := x) (f := f2) (by rw [← hse]; exact hks) (by rw [← hse]; exact hd)
  simp only [← hse] at htn
  rw [← hx8, hyx] at htn
  obtain ⟨r, hrx⟩ := bool_of (x = n)
  have HR : Hid ((by_ = 0 ∧ r = true ∧ f2 = 0) ∨ (by_ ≠ 0 ∧ r = false ∧ f2 = 0) ∨ (by_ ≠ 0 ∧ f2 = 12)) := by
    rcases htn with ⟨h1, h2, h3⟩ | ⟨h1, h2, h3⟩ | ⟨h1, h3⟩
    · exact .inl ⟨h1, hrx.2 h2, h3⟩
    · refine .inr (.inl ⟨fun h => h1 (hyx.2 h), ?_, h3⟩)
      cases r with
      | false => rfl
      | true => exact absurd (hrx.1 rfl) h2
    · exact .inr (.inr ⟨fun h => h1 (hyx.2 h), h3⟩)
  have cD : ∀ (w : World) (A : Option Addr) (cap : Nat), BL w A s → sl ≤ cap → Hid (Calls Tryz.prog 11 #[.agg #[.int .i64 cB, .int .i64 cY, .int .i64 cF, .int .i64 cN, .int .i64 cU, .int .i64 cL, .int .i64 cKy, .int .i64 cV], .slice A sl cap] w fun e w' => (∃ z : At, e = .returned (.tuple #[.agg (ndCs n z), .int .i64 0]) ∧ NdIn w' n z) ∧ Below w.heap.size w w') := fun w A cap hA hc => by
    have h9 := Decode_c ⟨cB, cY, cF, cN, cU, cL, cKy, cV⟩ (cap := cap) hA (by omega) (by omega) hl
    rw [← hsl] at h9
    refine h9.mono fun e w' ⟨⟨v, he, n', f3, z, hv, hn', hd'⟩, hb⟩ => ?_
    obtain ⟨rfl, rfl⟩ := hd'.one (.inr (.inr ⟨hr, hse.symm, rfl⟩))
    exact ⟨⟨z, by rw [he, hv], hn'⟩, hb⟩
  have cD2 : ∀ (w : World) (A : Option Addr) (cap : Nat), BL w A (s.set k y8) → sl ≤ cap → Hid (Calls Tryz.prog 11 #[.agg #[.int .i64 cB, .int .i64 cY, .int .i64 cF, .int .i64 cN, .int .i64 cU, .int .i64 cL, .int .i64 cKy, .int .i64 cV], .slice A sl cap] w fun e w' => (∃ z : At, e = .returned (.tuple #[.agg (ndCs x z), .int .i64 f2]) ∧ NdIn w' x z) ∧ Below w.heap.size w w') := fun w A cap hA hc => by
    have h9 := Decode_c ⟨cB, cY, cF, cN, cU, cL, cKy, cV⟩ (cap := cap) hA (by omega) (by omega) hl
    rw [hl2] at h9
    refine h9.mono fun e w' ⟨⟨v, he, n', f3, z, hv, hn', hd'⟩, hb⟩ => ?_
    obtain ⟨rfl, rfl⟩ := hd'.one hd
    exact ⟨⟨z, by rw [he, hv], hn'⟩, hb⟩
  have cS : ∀ (w : World) (z : At), NdIn w n z → Below W.heap.size W w → Hid (Calls Tryz.prog 13 #[.agg (ndCs n z), .agg (ndCs n a)] w fun e w' => e = .returned (.bool true) ∧ Below w.heap.size w w') := fun w z h1 hb => (RSame_any h1 (h.kept hb) hg.sz hg.sz).mono fun e w' ⟨⟨v, he, hv⟩, hb⟩ => ⟨by rw [he, hv.2 rfl], hb⟩
  have cS2 : ∀ (w : World) (z : At), NdIn w x z → Below W.heap.size W w → Hid (Calls Tryz.prog 13 #[.agg (ndCs x z), .agg (ndCs n a)] w fun e w' => e = .returned (.bool r) ∧ Below w.heap.size w w') := fun w z h1 hb => (RSame_any h1 (h.kept hb) hsm.1 hg.sz).mono fun e w' ⟨⟨v, he, hv⟩, hb⟩ => ⟨by rw [he, bool_one hv hrx], hb⟩
  have HMOD : Hid ((at_ : Int).tmod (sl : Int) = (k : Int)) := by
    unfold Hid
    rw [hk, Int.tmod_eq_emod_of_nonneg (Int.natCast_nonneg _)]
    rfl
  have hsl0 : 64 ≤ sl := by omega
  have hsl1 : sl ≤ 3000 := by omega
  rw [← hsl] at cE hks
  have HX8 : Hid (∀ w : World, ∀ g o : Nat, BL w (some ⟨g, o, none⟩) s → w.cell? ⟨g, o + k, none⟩ = some (.int .u8 (x8.toNat : Int))) := fun w g o hb => by
    have hk2 : k < s.length := by rw [← hsl]; exact hks
    obtain ⟨b', o', e, hc⟩ := hb (by omega)
    cases e
    rw [hc k hk2, hx8]
    rfl
  have HSET : Hid (∀ w : World, ∀ g o : Nat, ∀ C : Array Value, BL w (some ⟨g, o, none⟩) s → w.heap[g]? = some (.cells C 5 (0, 0)) → BL (w.setCell ⟨g, o + k, none⟩ (.int .u8 (y8.toNat : Int))) (some ⟨g, o, none⟩) (s.set k y8)) := fun w g o C hb hx => bl_set hb hx (by rw [← hsl]; exact hks) y8
  have HS0 : Hid (0 < s.length) := by unfold Hid; omega
  have HYV := Lib.hid hyv
  clear h hok hl hg hr hse hfe hs hlen hcy hk hx8 hy8 hyv hyx hd hl2 hsm htn hrx hsl
  subst hcs
  obtain ⟨lv, K, P, B, Q⟩ := n
  obtain ⟨kA, kc, pA, pc, bA, bc, qA, qc⟩ := a
  obtain ⟨xl, xK, xP, xB, xQ⟩ := x
  unfold ndCs at *
  simp only at *
  generalize K.length = kn at *
  generalize P.length = pn at *
  generalize B.length = bn at *
  generalize Q.length = qn at *
  generalize xK.length = xk at *
  generalize xP.length = xp at *
  generalize xB.length = xb at *
  generalize xQ.length = xq at *
  go_enter Tryz.func5, Tryz.ntmps5
  go_upto_region 1 with fail
  have HB := Lib.hid (Bx2.new W (.cells #[.int .i64 cB, .int .i64 (sl : Int), .int .i64 cF, .int .i64 cN, .int .i64 cU, .int .i64 cL, .int .i64 cKy, .int .i64 cV] 23) (.cells #[.int .i64 lv, .slice kA kn kc, .slice pA pn pc, .slice bA bn bc, .slice qA qn qc] 29))
  generalize (W.alloc (.cells #[.int .i64 cB, .int .i64 (sl : Int), .int .i64 cF, .int .i64 cN, .int .i64 cU, .int .i64 cL, .int .i64 cKy, .int .i64 cV] 23)).alloc (.cells #[.int .i64 lv, .slice kA kn kc, .slice pA pn pc, .slice bA bn bc, .slice qA qn qc] 29) = w1 at *
  obtain ⟨g, hg⟩ : ∃ g, g = W.heap.size := ⟨_, rfl⟩
  rw [← hg] at HB
  simp only [← hg]
  clear hg
  obtain ⟨g0, g1, g2, g3, g4, g5, g6, g7⟩ := box8 HB.out.x
  obtain ⟨d0, d1, d2, d3, d4⟩ := box5 HB.out.y
  have hne : ((sl : Int) != (sl : Int)) = false := by simp
  go_upto_region 6 with (first
    | (go_at_call 6; refine (cLi _).out.mono ?_; rintro e w2 ⟨rfl, hb⟩; replace HB := Lib.hid (HB.out.kept hb); clear hb cLi g0 g1 g2 g3 g4 g5 g6 g7 d0 d1 d2 d3 d4; obtain ⟨g0, g1, g2, g3, g4, g5, g6, g7⟩ := box8 HB.out.x; obtain ⟨d0, d1, d2, d3, d4⟩ := box5 HB.out.y)
    | (go_at_call 7; refine (cGr _ HB.out.below).out.mono ?_; rintro e w3 ⟨rfl, hb⟩; replace HB := Lib.hid (HB.out.kept hb); clear hb cGr g0 g1 g2 g3 g4 g5 g6 g7 d0 d1 d2 d3 d4; obtain ⟨g0, g1, g2, g3, g4, g5, g6, g7⟩ := box8 HB.out.x; obtain ⟨d0, d1, d2, d3, d4⟩ := box5 HB.out.y)
    | (go_at_call 9; refine (cE _ HB.out.below).out.mono ?_; rintro e w4 ⟨⟨A, cap, rfl, hf, hcap⟩, hb⟩; have HFB := Lib.hid hf; have HGS := Lib.hid (Array.getElem?_eq_some_iff.1 HB.out.y).1; have HWG := Lib.hid HB.out.below.size; clear hf; replace HB := Lib.hid (HB.out.kept hb); clear hb cE g0 g1 g2 g3 g4 g5 g6 g7 d0 d1 d2 d3 d4; obtain ⟨g0, g1, g2, g3, g4, g5, g6, g7⟩ := box8 HB.out.x; obtain ⟨d0, d1, d2, d3, d4⟩ := box5 HB.out.y))
  have hgs := HGS.out
  obtain ⟨gb, o, C, rfl, hgB, hgC⟩ := HFB.out.own HS0.out
  go_upto_region 7 with (go_at_call 11; refine (cD _ _ _ HFB.out.bl hcap).out.mono ?_; rintro e w5 ⟨⟨z1, rfl, hz1⟩, hb⟩; have HZ1 := Lib.hid hz1; clear hz1; replace hgC := kept3 hgC hb; replace HB := Lib.hid (HB.out.kept hb); replace HFB := Lib.hid (HFB.out.kept hb); clear hb cD g0 g1 g2 g3 g4 g5 g6 g7 d0 d1 d2 d3 d4; obtain ⟨g0, g1, g2, g3, g4, g5, g6, g7⟩ := box8 HB.out.x; obtain ⟨d0, d1, d2, d3, d4⟩ := box5 HB.out.y)
  have HGC := Lib.hid hgC
  clear hgC
  have hm := heap_alloc_new w5 (.cells #[.int .i64 lv, .slice z1.kA kn z1.kc, .slice z1.pA pn z1.pc, .slice z1.bA bn z1.bc, .slice z1.qA qn z1.qc] 29)
  have hbl : Below w5.heap.size w5 (w5.alloc (.cells #[.int .i64 lv, .slice z1.kA kn z1.kc, .slice z1.pA pn z1.pc, .slice z1.bA bn z1.bc, .slice z1.qA qn z1.qc] 29)) := (Below.refl _ _).alloc (Nat.le_refl _) _
  generalize w5.alloc (.cells #[.int .i64 lv, .slice z1.kA kn z1.kc, .slice z1.pA pn z1.pc, .slice z1.bA bn z1.bc, .slice z1.qA qn z1.qc] 29) = w6 at *
  obtain ⟨qw6, hq⟩ : ∃ q, q = w5.heap.size := ⟨_, rfl⟩
  simp only [← hq] at hm ⊢
  clear hq
  have HM1 := Lib.hid hm
  replace HB := Lib.hid (HB.out.kept hbl)
  replace HFB := Lib.hid (HFB.out.kept hbl)
  replace HZ1 := Lib.hid (HZ1.out.kept hbl)
  replace HGC := Lib.hid (kept3 HGC.out hbl)
  clear hm hbl g0 g1 g2 g3 g4 g5 g6 g7 d0 d1 d2 d3 d4
  obtain ⟨g0, g1, g2, g3, g4, g5, g6, g7⟩ := box8 HB.out.x
  obtain ⟨d0, d1, d2, d3, d4⟩ := box5 HB.out.y
  obtain ⟨u0, u1, u2, u3, u4⟩ := box5 HM1.out
  replace cS := fun w h1 h2 => cS w z1 h1 h2
  go_upto_region 9 with (go_at_call 13; refine (cS _ HZ1.out HB.out.below).out.mono ?_; rintro e w7 ⟨rfl, hb⟩; replace HB := Lib.hid (HB.out.kept hb); replace HFB := Lib.hid (HFB.out.kept hb); replace HGC := Lib.hid (kept3 HGC.out hb); clear hb cS g0 g1 g2 g3 g4 g5 g6 g7 d0 d1 d2 d3 d4; obtain ⟨g0, g1, g2, g3, g4, g5, g6, g7⟩ := box8 HB.out.x; obtain ⟨d0, d1, d2, d3, d4⟩ := box5 HB.out.y)
  clear u0 u1 u2 u3 u4 HZ1 HM1 hne
  have hmod := HMOD.out
  have hs0 : ((sl : Int) == 0) = false := by
    have h9 : (sl : Int) ≠ 0 := by omega
    simpa using h9
  go_upto_region 10 with fail
  clear hmod hs0
  have hx8 := HX8.out _ _ _ HFB.out.bl
  have hfr : w7.frozen? ⟨gb, o + k, none⟩ = false := free5 HGC.out _
  have hyv := HYV.out
  have hwy : IntKind.u8.wrap ((x8.toNat : Int) + (by_ : Int)) = (y8.toNat : Int) := by rw [IntKind.wrap_u8]; omega
  have hset := HSET.out _ _ _ _ HFB.out.bl HGC.out
  have hki : (k : Int) < (sl : Int) := by omega
  clear hyv
  go_upto_region 11 with fail
  clear hx8 hfr hwy hki
  have hgW : W.heap.size ≤ gb := Nat.le_trans HWG.out hgB
  have hbb : Below W.heap.size W (w7.setCell ⟨gb, o + k, none⟩ (.int .u8 (y8.toNat : Int))) := HB.out.below.setCell hgW _
  have hB9 : Bx2 W g (.cells #[.int .i64 cB, .int .i64 (sl : Int), .int .i64 cF, .int .i64 cN, .int .i64 cU, .int .i64 cL, .int .i64 cKy, .int .i64 cV] 23) (.cells #[.int .i64 lv, .slice kA kn kc, .slice pA pn pc, .slice bA bn bc, .slice qA qn qc] 29) (w7.setCell ⟨gb, o + k, none⟩ (.int .u8 (y8.toNat : Int))) := ⟨hbb, (set_other _ (by omega)).trans HB.out.x, (set_other _ (by omega)).trans HB.out.y⟩
  replace HB := Lib.hid hB9
  have HBL := Lib.hid hset
  clear hbb hB9 hset HFB HGC g0 g1 g2 g3 g4 g5 g6 g7 d0 d1 d2 d3 d4
  generalize w7.setCell ⟨gb, o + k, none⟩ (.int .u8 (y8.toNat : Int)) = w8 at *
  obtain ⟨g0, g1, g2, g3, g4, g5, g6, g7⟩ := box8 HB.out.x
  obtain ⟨d0, d1, d2, d3, d4⟩ := box5 HB.out.y
  go_upto_region 12 with (go_at_call 11; refine (cD2 _ _ _ HBL.out hcap).out.mono ?_; rintro e w10 ⟨⟨z2, rfl, hz2⟩, hb⟩; have HZ2 := Lib.hid hz2; clear hz2; replace HB := Lib.hid (HB.out.kept hb); clear hb cD2 g0 g1 g2 g3 g4 g5 g6 g7 d0 d1 d2 d3 d4; obtain ⟨g0, g1, g2, g3, g4, g5, g6, g7⟩ := box8 HB.out.x; obtain ⟨d0, d1, d2, d3, d4⟩ := box5 HB.out.y)
  have hm := heap_alloc_new w10 (.cells #[.int .i64 xl, .slice z2.kA xk z2.kc, .slice z2.pA xp z2.pc, .slice z2.bA xb z2.bc, .slice z2.qA xq z2.qc] 29)
  have hbl : Below w10.heap.size w10 (w10.alloc (.cells #[.int .i64 xl, .slice z2.kA xk z2.kc, .slice z2.pA xp z2.pc, .slice z2.bA xb z2.bc, .slice z2.qA xq z2.qc] 29)) := (Below.refl _ _).alloc (Nat.le_refl _) _
  generalize w10.alloc (.cells #[.int .i64 xl, .slice z2.kA xk z2.kc, .slice z2.pA xp z2.pc, .slice z2.bA xb z2.bc, .slice z2.qA xq z2.qc] 29) = w11 at *
  obtain ⟨qw11, hq⟩ : ∃ q, q = w10.heap.size := ⟨_, rfl⟩
  simp only [← hq] at hm ⊢
  clear hq
  have HM2 := Lib.hid hm
  replace HB := Lib.hid (HB.out.kept hbl)
  replace HZ2 := Lib.hid (HZ2.out.kept hbl)
  clear hm hbl g0 g1 g2 g3 g4 g5 g6 g7 d0 d1 d2 d3 d4
  obtain ⟨g0, g1, g2, g3, g4, g5, g6, g7⟩ := box8 HB.out.x
  obtain ⟨d0, d1, d2, d3, d4⟩ := box5 HB.out.y
  obtain ⟨u0, u1, u2, u3, u4⟩ := box5 HM2.out
  replace cS2 := fun w h1 h2 => cS2 w z2 h1 h2
  rcases HR.out with ⟨rfl, rfl, rfl⟩ | ⟨hb0, rfl, rfl⟩ | ⟨hb0, rfl⟩
  · go_wp2_with (first
      | (go_at_call 13; refine (cS2 _ HZ2.out HB.out.below).out.mono ?_; rintro e w12 ⟨rfl, hb⟩; replace HB := Lib.hid (HB.out.kept hb); clear hb cS2)
      | (go_at_call 8; refine (cA _).out.mono ?_; rintro e w9 ⟨rfl, hb⟩; have HF := Lib.hid (HB.out.kept hb).below; clear hb))
    go_ret
    exact ⟨rfl, HF.out⟩
  · have hb1 : ((by_ : Int) == 0) = false := by
      have h9 : (by_ : Int) ≠ 0 := by omega
      simpa using h9
    go_wp2_with (first
      | (go_at_call 13; refine (cS2 _ HZ2.out HB.out.below).out.mono ?_; rintro e w12 ⟨rfl, hb⟩; replace HB := Lib.hid (HB.out.kept hb); clear hb cS2)
      | (go_at_call 8; refine (cA _).out.mono ?_; rintro e w9 ⟨rfl, hb⟩; have HF := Lib.hid (HB.out.kept hb).below; clear hb))
    go_ret
    exact ⟨rfl, HF.out⟩
  · have hb1 : ((by_ : Int) == 0) = false := by
      have h9 : (by_ : Int) ≠ 0 := by omega
      simpa using h9
    clear cS2
    go_wp2_with (go_at_call 8; refine (cA _).out.mono ?_; rintro e w9 ⟨rfl, hb⟩; have HF := Lib.hid (HB.out.kept hb).below; clear hb)
    go_ret
    exact ⟨rfl, HF.out⟩
theorem CodeBack_walk (cB cY cF cN cU cL cKy cV : Int) (n : Nd) (a : At) (at_ by_ : Nat) (W : World) (h : NdIn W n a) (hok : NdOk n) (hat : at_ < 65536) (hby : by_ < 256) : Calls Tryz.prog 5 #[.agg #[.int .i64 cB, .int .i64 cY, .int .i64 cF, .int .i64 cN, .int .i64 cU, .int .i64 cL, .int .i64 cKy, .int .i64 cV], .agg (ndCs n a), .int .u16 (at_ : Int), .int .u8 (by_ : Int)] W fun e w' => e = .returned (.bool true) ∧ Below W.heap.size W w' := by
  by_cases hl : cY ≤ 3000
  · by_cases hg : Fit n
    · by_cases hr : RightA ⟨cB, cY, cF, cN, cU, cL, cKy, cV⟩ n
      · exact CodeBack_yes cB cY cF cN cU cL cKy cV n a at_ by_ W h hok hat hby hl hg hr
      · obtain ⟨s, f, hs⟩ := EncP.some ⟨cB, cY, cF, cN, cU, cL, cKy, cV⟩ n
        refine CodeBack_none cB cY cF cN cU cL cKy cV n a at_ by_ W h hok hat hby hl hg s f hs fun hf => ?_
        rcases hs with ⟨-, -, h9⟩ | ⟨-, -, -, h9⟩ | ⟨h9, -, -⟩
        · omega
        · omega
        · exact hr h9
    · exact CodeBack_great cB cY cF cN cU cL cKy cV n a at_ by_ W h hok hat hby hl hg
  · exact CodeBack_heavy cB cY cF cN cU cL cKy cV n a at_ by_ W h hok hat hby hl
end No
end Go.Proofs.YtgpbioljldkmaaaGreat

namespace Go.Proofs.YtgpbioljldkmaaaGreat.CodeBack
open Go.ChangeShapes Go.WideShapes Go.ChangeAt Go.RowKit
open Go.ChangeMaps (open_string shut_string)

theorem own : ownKnob Tryz.prog.godebug = none := by kernel_rfl

set_option maxRecDepth 100000 in
theorem contract (H : Type) (enc : TypeId × Value → H) (W : World) (base : Nat) (args : Array Value) (ds gs : List (DataW H)) (before : List MemPlace)
    (hval : ∀ (j : Nat) t v, Tryz.f5.params[j]? = some t → args[j]? = some v → Value.okWide Tryz.prog W .any base t v)
    (hW : DataW.Whole enc Tryz.prog Tryz.f5.params.toList Rows.codeBackSpec.vars false W args.toList ds gs before)
    (hsz : (DataW.weightsEach Tryz.prog (Tryz.f5.params.toList ++ Rows.codeBackSpec.plain.varTypes Tryz.prog) (ds ++ gs)).all (· ≤ reachBytes) = true) :
    Calls Tryz.prog 5 args W fun e W' => ∃ v, e = .returned v ∧ Rows.codeBackSpec.post enc Tryz.prog Tryz.f5 false true false false W args v W' := by
  have hW' := hW
  obtain ⟨p, q, hA0, hV, rfl, hfz, hnd⟩ := hW
  have hA : DataW.TrodAll enc Tryz.prog W 0 (fun _ => true) true Tryz.f5.params.toList args.toList ds p := hA0
  rw [Tryz.params5] at hA hval
  obtain ⟨v0, vs0, d0, ds0, p0, q0, hargs0, rfl, rfl, h0, r0⟩ := trodAll_cons hA
  obtain ⟨v1, vs1, d1, ds1, p1, q1, hargs1, rfl, rfl, h1, r1⟩ := trodAll_cons r0
  obtain ⟨v2, vs2, d2, ds2, p2, q2, hargs2, rfl, rfl, h2, r2⟩ := trodAll_cons r1
  obtain ⟨v3, vs3, d3, ds3, p3, q3, hargs3, rfl, rfl, h3, r3⟩ := trodAll_cons r2
  obtain ⟨rfl, rfl, rfl⟩ := trodAll_nil r3
  obtain rfl : args = #[v0, v1, v2, v3] := by cases args; simp_all
  obtain ⟨rfl, rfl⟩ := trodVars_none hV
  obtain ⟨cB, cY, cF, cN, cU, cL, cKy, cV, rfl⟩ := Cf.open_cfg (hval 0 23 v0 rfl rfl) h0
  have zn : ∀ n ∈ d1.weights Tryz.prog 29, n ≤ reachBytes := fun n hn => by
    have := List.all_eq_true.1 hsz n (DataW.weights_mem_each (j := 1) (by rw [Tryz.params5]; rfl) rfl n hn)
    simpa using this
  obtain ⟨n, An, rfl, hn, bn⟩ := No.open_node (hval 1 29 v1 rfl rfl) h1 zn
  obtain ⟨zao, rfl, rfl, rfl, mao⟩ := open_int Tryz.underlying46 (hval 2 46 v2 rfl rfl) h2
  obtain ⟨ao, rfl, bao⟩ := Args.nat_of_u16 mao
  obtain ⟨zbo, rfl, rfl, rfl, mbo⟩ := open_int Tryz.underlying5 (hval 3 5 v3 rfl rfl) h3
  obtain ⟨bo, rfl, bbo⟩ := Args.nat_of_u8 mbo
  clear hA0
  simp only [List.append_nil] at hW'
  refine (No.CodeBack_walk cB cY cF cN cU cL cKy cV n An ao bo W hn bn bao bbo).mono fun e W' ⟨he, hg⟩ => ?_
  subst he
  exact ⟨_, rfl, Post.law_post (by kernel_rfl) (by kernel_rfl) hW' rfl rfl rfl Tryz.underlying4 hg⟩

set_option maxRecDepth 100000 in
theorem lifted (os : Os) (started : os.Started) (H : Type) (enc : TypeId × Value → H) :
    ReturnsInHanded {} Tryz.checked os 5 .any (Rows.codeBackSpec.pre6 enc Tryz.prog Tryz.f5 Rows.codeBackRow.domain false) (Rows.codeBackSpec.post enc Tryz.prog Tryz.f5 false true false false) := by
  refine returnsInHanded_of_change_sized (C := Tryz.checked) own started (by kernel_rfl) Tryz.func5
    (ChangeSpec.witness6 (enc := enc) (C := Tryz.checked) false ⟨#[], #[.agg #[.int .i64 0, .int .i64 0, .int .i64 0, .int .i64 0, .int .i64 0, .int .i64 0, .int .i64 0, .int .i64 0], .agg #[.int .i64 0, .slice none 0 0, .slice none 0 0, .slice none 0 0, .slice none 0 0], .int .u16 0, .int .u8 0], []⟩ 8 (by kernel_rfl) (by kernel_rfl) (by kernel_rfl) (by kernel_rfl)) ?_
  intro W base args ds gs before hval hW _ hsz _
  exact contract H enc W base args ds gs before hval hW hsz

theorem holds : Rows.CodeBackSaid :=
  OpenClaim.holds_of_wide 5 Tryz.f5 rfl rfl rfl rfl rfl rfl rfl ⟨rfl, rfl, rfl, rfl, rfl⟩ rfl rfl rfl rfl rfl (by kernel_rfl) Tryz.func5 (by kernel_rfl)
    (of_decide_eq_true (by kernel_rfl)) (by unfold Func.isWrapper; first | (rw [if_pos (by decide +kernel)]; kernel_rfl) | (rw [if_neg (by decide +kernel)]; exact ⟨rfl, rfl⟩))
    (fun os started H enc _ => lifted os started H enc)
end Go.Proofs.YtgpbioljldkmaaaGreat.CodeBack
