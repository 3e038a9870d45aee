/-
  node's laws: NodeRights.
-/
import Derived.Test.YtlcdjbleeanpbaaNodeLaw
import Derived.Test.YtlcdjbleeanpbaaNodeKw
import Derived.Test.YtlcdjbleeanpbaaCfgArgs
namespace Go.Proofs.Ytlcdjbleeanpbaa
open Go.RowKit
namespace No
open Mem Lx Bu Lf Fa
set_option maxRecDepth 100000 in
set_option maxHeartbeats 8000000 in
theorem NodeRights_walk (cB cY cF cN cU cL cKy cV : Int) (lo hi : ByteArray) (top : Bool) (n : Nd) (a : At) (W : World) (h : NdIn W n a) (hok : NdOk n) : Calls Try.prog 3 #[.agg #[.int .i64 cB, .int .i64 cY, .int .i64 cF, .int .i64 cN, .int .i64 cU, .int .i64 cL, .int .i64 cKy, .int .i64 cV], .agg #[.string lo, .string hi, .bool top], .agg (ndCs n a)] W fun e w' => e = .returned (.bool true) ∧ Below W.heap.size W w' := by
  obtain ⟨gb, hgb⟩ := bool_of (¬ Fit n)
  have cG : ∀ w, Below W.heap.size W w → Hid (Calls Try.prog 7 #[.agg (ndCs n a)] w fun e w' => e = .returned (.bool gb) ∧ Below w.heap.size w w') := fun w hb => (Great_any (h.kept hb) hok).mono fun e w' ⟨⟨v, he, hv⟩, hb⟩ => ⟨by
    rw [he]
    cases v <;> cases gb <;> simp_all, hb⟩
  obtain ⟨r, hr⟩ := bool_of (RightN ⟨cB, cY, cF, cN, cU, cL, cKy, cV⟩ lo hi top n)
  have cR : Fit n → lo.size ≤ 200 → hi.size ≤ 200 → ∀ w, Below W.heap.size W w → Hid (Calls Try.prog 9 #[.agg #[.int .i64 cB, .int .i64 cY, .int .i64 cF, .int .i64 cN, .int .i64 cU, .int .i64 cL, .int .i64 cKy, .int .i64 cV], .agg #[.string lo, .string hi, .bool top], .agg (ndCs n a)] w fun e w' => e = .returned (.bool r) ∧ Below w.heap.size w w') := fun hf h1 h2 w hb => (Right_any ⟨cB, cY, cF, cN, cU, cL, cKy, cV⟩ lo hi top (h.kept hb) hf hok.kid h1 h2).mono fun e w' ⟨⟨v, he, hv⟩, hb⟩ => ⟨by rw [he, bool_one hv hr], hb⟩
  have cD : Fit n → lo.size ≤ 200 → ∀ w, Below W.heap.size W w → Hid (Calls Try.prog 10 #[.agg #[.int .i64 cB, .int .i64 cY, .int .i64 cF, .int .i64 cN, .int .i64 cU, .int .i64 cL, .int .i64 cKy, .int .i64 cV], .agg #[.string lo, .string hi, .bool top], .agg (ndCs n a)] w fun e w' => e = .returned (.bool r) ∧ Below w.heap.size w w') := fun hf h1 w hb => (RRight_any ⟨cB, cY, cF, cN, cU, cL, cKy, cV⟩ lo hi top (h.kept hb) hf hok.kid (Nat.le_trans h1 (by decide))).mono fun e w' ⟨⟨v, he, hv⟩, hb⟩ => ⟨by rw [he, bool_one hv hr], hb⟩
  obtain ⟨k, hk⟩ : ∃ k, k = keyB ⟨cB, cY, cF, cN, cU, cL, cKy, cV⟩ lo := ⟨_, rfl⟩
  have cK : lo.size ≤ 200 → ∀ w, Hid (Calls Try.prog 11 #[.agg #[.int .i64 cB, .int .i64 cY, .int .i64 cF, .int .i64 cN, .int .i64 cU, .int .i64 cL, .int .i64 cKy, .int .i64 cV], .string lo] w fun e w' => e = .returned (.bool k) ∧ Below w.heap.size w w') := fun h1 w => by
    rw [hk]
    exact Key_any ⟨cB, cY, cF, cN, cU, cL, cKy, cV⟩ lo w (Nat.le_trans h1 (by decide))
  have cE : ∀ w, Hid (Calls Try.prog 12 #[.agg #[.int .i64 cB, .int .i64 cY, .int .i64 cF, .int .i64 cN, .int .i64 cU, .int .i64 cL, .int .i64 cKy, .int .i64 cV], .string lo] w fun e w' => e = .returned (.bool k) ∧ Below w.heap.size w w') := fun w => by
    rw [hk]
    exact RKey_any ⟨cB, cY, cF, cN, cU, cL, cKy, cV⟩ lo w
  have HGB : Hid (gb = false → Fit n) := fun e => Classical.not_not.1 fun hn => by
    rw [hgb.2 hn] at e
    cases e
  clear h hok hr hk hgb
  obtain ⟨lv, K, L, B, Q⟩ := n
  obtain ⟨kA, kc, pA, pc, bA, bc, qA, qc⟩ := a
  unfold ndCs at *
  simp only at *
  generalize K.length = kn at *
  generalize L.length = pn at *
  generalize B.length = bn at *
  generalize Q.length = qn at *
  go_enter Try.func3, Try.ntmps3
  go_upto_region 1 with fail
  have HB := Lib.hid (B3.new W (.cells #[.int .i64 cB, .int .i64 cY, .int .i64 cF, .int .i64 cN, .int .i64 cU, .int .i64 cL, .int .i64 cKy, .int .i64 cV] 23) (.cells #[.string lo, .string hi, .bool top] 25) (.cells #[.int .i64 lv, .slice kA kn kc, .slice pA pn pc, .slice bA bn bc, .slice qA qn qc] 31))
  generalize ((W.alloc (.cells #[.int .i64 cB, .int .i64 cY, .int .i64 cF, .int .i64 cN, .int .i64 cU, .int .i64 cL, .int .i64 cKy, .int .i64 cV] 23)).alloc (.cells #[.string lo, .string hi, .bool top] 25)).alloc (.cells #[.int .i64 lv, .slice kA kn kc, .slice pA pn pc, .slice bA bn bc, .slice qA qn qc] 31) = w1 at *
  obtain ⟨g, hg⟩ : ∃ g, g = W.heap.size := ⟨_, rfl⟩
  rw [← hg] at HB
  simp only [← hg]
  clear hg
  obtain ⟨e0, e1, e2⟩ := box3 HB.out.y
  obtain ⟨d0, d1, d2, d3, d4⟩ := box5 HB.out.z
  cases gb with
  | true =>
    clear cR cD cK cE HGB
    go_wp2_with (first | (go_at_call 7; refine (cG _ HB.out.below).out.mono ?_; rintro e w2 ⟨rfl, hb⟩; clear cG; replace HB := Lib.hid (HB.out.kept hb); clear hb e0 e1 e2 d0 d1 d2 d3 d4; obtain ⟨e0, e1, e2⟩ := box3 HB.out.y; obtain ⟨d0, d1, d2, d3, d4⟩ := box5 HB.out.z) | (go_at_call 8; refine (awake_any _).mono ?_; rintro e w3 ⟨rfl, hb⟩; have HBF := Lib.hid (HB.out.kept hb).below))
    go_ret
    exact ⟨rfl, HBF.out⟩
  | false =>
    by_cases h1 : lo.size ≤ 200
    case neg =>
      have hd : (200 : Int) < (lo.size : Int) := by omega
      clear cR cD cK cE HGB h1
      go_wp2_with (first | (go_at_call 7; refine (cG _ HB.out.below).out.mono ?_; rintro e w2 ⟨rfl, hb⟩; clear cG; replace HB := Lib.hid (HB.out.kept hb); clear hb e0 e1 e2 d0 d1 d2 d3 d4; obtain ⟨e0, e1, e2⟩ := box3 HB.out.y; obtain ⟨d0, d1, d2, d3, d4⟩ := box5 HB.out.z) | (go_at_call 8; refine (awake_any _).mono ?_; rintro e w3 ⟨rfl, hb⟩; have HBF := Lib.hid (HB.out.kept hb).below))
      go_ret
      exact ⟨rfl, HBF.out⟩
    have hd : decide ((200 : Int) < (lo.size : Int)) = false := by simp; omega
    by_cases h2 : hi.size ≤ 200
    case neg =>
      have hd2 : (200 : Int) < (hi.size : Int) := by omega
      clear cR cD cK cE HGB h1 h2
      go_wp2_with (first | (go_at_call 7; refine (cG _ HB.out.below).out.mono ?_; rintro e w2 ⟨rfl, hb⟩; clear cG; replace HB := Lib.hid (HB.out.kept hb); clear hb e0 e1 e2 d0 d1 d2 d3 d4; obtain ⟨e0, e1, e2⟩ := box3 HB.out.y; obtain ⟨d0, d1, d2, d3, d4⟩ := box5 HB.out.z) | (go_at_call 8; refine (awake_any _).mono ?_; rintro e w3 ⟨rfl, hb⟩; have HBF := Lib.hid (HB.out.kept hb).below))
      go_ret
      exact ⟨rfl, HBF.out⟩
    have hd2 : decide ((200 : Int) < (hi.size : Int)) = false := by simp; omega
    replace cR := cR (HGB.out rfl) h1 h2
    replace cD := cD (HGB.out rfl) h1
    replace cK := cK h1
    clear HGB h1 h2
    go_upto_region 3 with (go_at_call 7; refine (cG _ HB.out.below).out.mono ?_; rintro e w2 ⟨rfl, hb⟩; clear cG; replace HB := Lib.hid (HB.out.kept hb); clear hb e0 e1 e2 d0 d1 d2 d3 d4; obtain ⟨e0, e1, e2⟩ := box3 HB.out.y; obtain ⟨d0, d1, d2, d3, d4⟩ := box5 HB.out.z)
    clear hd hd2 e0 e1 e2 d0 d1 d2 d3 d4
    obtain ⟨e0, e1, e2⟩ := box3 HB.out.y
    obtain ⟨d0, d1, d2, d3, d4⟩ := box5 HB.out.z
    obtain ⟨g0, g1, g2, g3, g4, g5, g6, g7⟩ := box8 HB.out.x
    have d0' := fun q : Drift.Tide [] w2 [] => Drift.Tide.cell d0 (by simp) q
    have d1' := fun q : Drift.Tide [] w2 [] => Drift.Tide.cell d1 (by simp) q
    have d2' := fun q : Drift.Tide [] w2 [] => Drift.Tide.cell d2 (by simp) q
    have d3' := fun q : Drift.Tide [] w2 [] => Drift.Tide.cell d3 (by simp) q
    have d4' := fun q : Drift.Tide [] w2 [] => Drift.Tide.cell d4 (by simp) q
    have e0' := fun q : Drift.Tide [] w2 [] => Drift.Tide.cell e0 (by simp) q
    have e1' := fun q : Drift.Tide [] w2 [] => Drift.Tide.cell e1 (by simp) q
    have e2' := fun q : Drift.Tide [] w2 [] => Drift.Tide.cell e2 (by simp) q
    have g0' := fun q : Drift.Tide [] w2 [] => Drift.Tide.cell g0 (by simp) q
    have g1' := fun q : Drift.Tide [] w2 [] => Drift.Tide.cell g1 (by simp) q
    have g2' := fun q : Drift.Tide [] w2 [] => Drift.Tide.cell g2 (by simp) q
    have g3' := fun q : Drift.Tide [] w2 [] => Drift.Tide.cell g3 (by simp) q
    have g4' := fun q : Drift.Tide [] w2 [] => Drift.Tide.cell g4 (by simp) q
    have g5' := fun q : Drift.Tide [] w2 [] => Drift.Tide.cell g5 (by simp) q
    have g6' := fun q : Drift.Tide [] w2 [] => Drift.Tide.cell g6 (by simp) q
    have g7' := fun q : Drift.Tide [] w2 [] => Drift.Tide.cell g7 (by simp) q
    clear d0 d1 d2 d3 d4 e0 e1 e2 g0 g1 g2 g3 g4 g5 g6 g7
    have t1 : (r == r) = true := beq_self_eq_true r
    have t2 : (k == k) = true := beq_self_eq_true k
    refine Drift.wp_region_drift [] [(0,[]),(1,[]),(2,[]),(3,[]),(4,[]),(5,[]),(6,[]),(7,[]),(8,[]),(9,[]),(10,[]),(11,[]),(12,[]),(13,[]),(14,[]),(15,[]),(16,[]),(17,[]),(18,[]),(19,[]),(20,[]),(21,[]),(22,[]),(23,[])] [] [] (by kernel_rfl) (by kernel_rfl) (by simp) ?_
    simp only [Drift.pick, Drift.opsAt, List.getElem?_toArray, List.getElem?_cons_zero, List.getElem?_cons_succ, List.cons_append, List.nil_append, List.filterMap_nil]
    repeat (refine Drift.walk_step (fun K hK => ?_); go_simp; first | (refine hK _ ?_; clear hK K) | (apply Exists.intro; refine ⟨fun q => ?_, hK _ ?_⟩; (first | (go_at_call 9; exact (cR _ (HB.out.below.trans (q.into.below.mono HB.out.below.size))).out) | (go_at_call 10; exact (cD _ (HB.out.below.trans (q.into.below.mono HB.out.below.size))).out) | (go_at_call 11; exact (cK _).out) | (go_at_call 12; exact (cE _).out) | (go_at_call 8; exact awake_any _)); clear hK K))
    refine Drift.walk_nil ?_
    intro w7 hb7 _
    have HBF := Lib.hid (HB.out.kept hb7).below
    clear hb7 HB
    simp only [List.length_cons, List.length_nil, List.drop_succ_cons, List.drop_nil, Nat.zero_add, Nat.reduceAdd]
    go_wp2_with fail
    go_ret
    exact ⟨rfl, HBF.out⟩
end No
end Go.Proofs.Ytlcdjbleeanpbaa
