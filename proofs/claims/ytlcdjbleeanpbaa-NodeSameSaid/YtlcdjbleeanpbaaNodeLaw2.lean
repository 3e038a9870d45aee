/-
  node's laws: NodeSame.
-/
import Derived.Test.YtlcdjbleeanpbaaNodeO
namespace Go.Proofs.Ytlcdjbleeanpbaa
open Go.RowKit
namespace No
open Mem Lx Bu Lf Fa
set_option maxRecDepth 100000 in
set_option maxHeartbeats 16000000 in
theorem NodeSame_walk (n : Nd) (a : At) (n' : Nd) (a' : At) (W : World) (h : NdIn W n a) (hok : NdOk n) (h' : NdIn W n' a') (hok' : NdOk n') : Calls Try.prog 4 #[.agg (ndCs n a), .agg (ndCs n' a')] W fun e w' => e = .returned (.bool true) ∧ Below W.heap.size W w' := by
  obtain ⟨gb, hgb⟩ := bool_of (¬ Fit n)
  obtain ⟨gc, hgc⟩ := bool_of (¬ Fit n')
  have cG : ∀ w, Below W.heap.size W w → Hid (Calls Try.prog 7 #[.agg (ndCs n a)] w fun e w' => e = .returned (.bool gb) ∧ Below w.heap.size w w') := fun w hb => (Great_any (h.kept hb) hok).mono fun e w' ⟨⟨v, he, hv⟩, hb⟩ => ⟨by
    rw [he]
    cases v <;> cases gb <;> simp_all, hb⟩
  have cG2 : ∀ w, Below W.heap.size W w → Hid (Calls Try.prog 7 #[.agg (ndCs n' a')] w fun e w' => e = .returned (.bool gc) ∧ Below w.heap.size w w') := fun w hb => (Great_any (h'.kept hb) hok').mono fun e w' ⟨⟨v, he, hv⟩, hb⟩ => ⟨by
    rw [he]
    cases v <;> cases gc <;> simp_all, hb⟩
  obtain ⟨r, hr⟩ := bool_of (n = n')
  have cS : Fit n → Fit n' → ∀ w, Below W.heap.size W w → Hid (Calls Try.prog 14 #[.agg (ndCs n a), .agg (ndCs n' a')] w fun e w' => e = .returned (.bool r) ∧ Below w.heap.size w w') := fun f f' w hb => (Same_any (h.kept hb) (h'.kept hb) f f').mono fun e w' ⟨⟨v, he, hv⟩, hb⟩ => ⟨by rw [he, bool_one hv hr], hb⟩
  have cD : Fit n → Fit n' → ∀ w, Below W.heap.size W w → Hid (Calls Try.prog 15 #[.agg (ndCs n a), .agg (ndCs n' a')] w fun e w' => e = .returned (.bool r) ∧ Below w.heap.size w w') := fun f f' w hb => (RSame_any (h.kept hb) (h'.kept hb) f.sz f'.sz).mono fun e w' ⟨⟨v, he, hv⟩, hb⟩ => ⟨by rw [he, bool_one hv hr], hb⟩
  have cO : Fit n → ∀ w, Below W.heap.size W w → ∀ a2, NdIn w n a2 → Hid (Calls Try.prog 15 #[.agg (ndCs n a), .agg (ndCs n a2)] w fun e w' => e = .returned (.bool true) ∧ Below w.heap.size w w') := fun f w hb a2 h2 => (RSame_any (h.kept hb) h2 f.sz f.sz).mono fun e w' ⟨⟨v, he, hv⟩, hb⟩ => ⟨by rw [he, hv.2 rfl], hb⟩
  have cC : Fit n → ∀ w, Below W.heap.size W w → Hid (Calls Try.prog 13 #[.agg (ndCs n a)] w fun e w' => (∃ a2, e = .returned (.agg (ndCs n a2)) ∧ FrNd w' w.heap.size n a2) ∧ Below w.heap.size w w') := fun f w hb => Clone_any (h.kept hb) f
  have HGB : Hid (gb = false → Fit n) := fun e => Classical.not_not.1 fun hn => by
    rw [hgb.2 hn] at e
    cases e
  have HGC : Hid (gc = false → Fit n') := fun e => Classical.not_not.1 fun hn => by
    rw [hgc.2 hn] at e
    cases e
  have HVAL : Hid (∀ m, m ∈ n.prs → m.2.size ≤ reachBytes) := hok.val
  clear h hok h' hok' hr hgb hgc
  obtain ⟨lv, K, L, B, Q⟩ := n
  obtain ⟨lv', K', L', B', Q'⟩ := n'
  obtain ⟨kA, kc, pA, pc, bA, bc, qA, qc⟩ := a
  obtain ⟨kA', kc', pA', pc', bA', bc', qA', qc'⟩ := a'
  unfold ndCs at *
  simp only at *
  generalize hkn : K.length = kn at *
  generalize hpn : L.length = pn at *
  generalize hbn : B.length = bn at *
  generalize hqn : Q.length = qn at *
  generalize K'.length = kn' at *
  generalize L'.length = pn' at *
  generalize B'.length = bn' at *
  generalize Q'.length = qn' at *
  have HKN := Lib.hid hkn
  have HPN := Lib.hid hpn
  have HBN := Lib.hid hbn
  have HQN := Lib.hid hqn
  clear hkn hpn hbn hqn
  go_enter Try.func4, Try.ntmps4
  go_upto_region 1 with fail
  have h3 := two_new W (.cells #[.int .i64 lv, .slice kA kn kc, .slice pA pn pc, .slice bA bn bc, .slice qA qn qc] 31) (.cells #[.int .i64 lv', .slice kA' kn' kc', .slice pA' pn' pc', .slice bA' bn' bc', .slice qA' qn' qc'] 31)
  generalize (W.alloc (.cells #[.int .i64 lv, .slice kA kn kc, .slice pA pn pc, .slice bA bn bc, .slice qA qn qc] 31)).alloc (.cells #[.int .i64 lv', .slice kA' kn' kc', .slice pA' pn' pc', .slice bA' bn' bc', .slice qA' qn' qc'] 31) = w1 at *
  obtain ⟨g, hg⟩ : ∃ g, g = W.heap.size := ⟨_, rfl⟩
  simp only [← hg]
  have HX : Hid (w1.heap[g]? = some (.cells #[.int .i64 lv, .slice kA kn kc, .slice pA pn pc, .slice bA bn bc, .slice qA qn qc] 31 (0, 0))) := by rw [hg]; exact h3.1
  have HY : Hid (w1.heap[g + 1]? = some (.cells #[.int .i64 lv', .slice kA' kn' kc', .slice pA' pn' pc', .slice bA' bn' bc', .slice qA' qn' qc'] 31 (0, 0))) := by rw [hg]; exact h3.2.1
  have HW := Lib.hid h3.2.2
  clear h3 hg
  obtain ⟨d0, d1, d2, d3, d4⟩ := box5 HX.out
  obtain ⟨e0, e1, e2, e3, e4⟩ := box5 HY.out
  cases gb with
  | true =>
    clear cG2 cS cD cO cC HGB HGC
    go_wp2_with (first | (go_at_call 7; refine (cG _ HW.out).out.mono ?_; rintro e w2 ⟨rfl, hb⟩; clear cG; replace HW := Lib.hid (HW.out.trans (hb.mono HW.out.size)); replace HX := Lib.hid (kept3 HX.out hb); replace HY := Lib.hid (kept3 HY.out hb); clear hb d0 d1 d2 d3 d4 e0 e1 e2 e3 e4; obtain ⟨d0, d1, d2, d3, d4⟩ := box5 HX.out; obtain ⟨e0, e1, e2, e3, e4⟩ := box5 HY.out) | (go_at_call 8; refine (awake_any _).mono ?_; rintro e w3 ⟨rfl, hb⟩; have HBF := Lib.hid (HW.out.trans (hb.mono HW.out.size))))
    go_ret
    exact ⟨rfl, HBF.out⟩
  | false =>
  cases gc with
  | true =>
    clear cS cD cO cC HGB HGC
    go_wp2_with (first | (go_at_call 7; refine (cG _ HW.out).out.mono ?_; rintro e w2 ⟨rfl, hb⟩; clear cG; replace HW := Lib.hid (HW.out.trans (hb.mono HW.out.size)); replace HX := Lib.hid (kept3 HX.out hb); replace HY := Lib.hid (kept3 HY.out hb); clear hb d0 d1 d2 d3 d4 e0 e1 e2 e3 e4; obtain ⟨d0, d1, d2, d3, d4⟩ := box5 HX.out; obtain ⟨e0, e1, e2, e3, e4⟩ := box5 HY.out) | (go_at_call 7; refine (cG2 _ HW.out).out.mono ?_; rintro e w2 ⟨rfl, hb⟩; clear cG2; replace HW := Lib.hid (HW.out.trans (hb.mono HW.out.size)); replace HX := Lib.hid (kept3 HX.out hb); replace HY := Lib.hid (kept3 HY.out hb); clear hb d0 d1 d2 d3 d4 e0 e1 e2 e3 e4; obtain ⟨d0, d1, d2, d3, d4⟩ := box5 HX.out; obtain ⟨e0, e1, e2, e3, e4⟩ := box5 HY.out) | (go_at_call 8; refine (awake_any _).mono ?_; rintro e w3 ⟨rfl, hb⟩; have HBF := Lib.hid (HW.out.trans (hb.mono HW.out.size))))
    go_ret
    exact ⟨rfl, HBF.out⟩
  | false =>
  have f := HGB.out rfl
  have f' := HGC.out rfl
  replace cS := cS f f'
  replace cD := cD f f'
  replace cO := cO f
  replace cC := cC f
  have HPK : Hid (∀ p, p ∈ L → p.size ≤ 200) := f.pk
  have HBK : Hid (∀ m, m ∈ B → m.1.size ≤ 200) := f.bk
  clear HGB HGC f f'
  go_upto_region 3 with (first | (go_at_call 7; refine (cG _ HW.out).out.mono ?_; rintro e w2 ⟨rfl, hb⟩; clear cG; replace HW := Lib.hid (HW.out.trans (hb.mono HW.out.size)); replace HX := Lib.hid (kept3 HX.out hb); replace HY := Lib.hid (kept3 HY.out hb); clear hb d0 d1 d2 d3 d4 e0 e1 e2 e3 e4; obtain ⟨d0, d1, d2, d3, d4⟩ := box5 HX.out; obtain ⟨e0, e1, e2, e3, e4⟩ := box5 HY.out) | (go_at_call 7; refine (cG2 _ HW.out).out.mono ?_; rintro e w2 ⟨rfl, hb⟩; clear cG2; replace HW := Lib.hid (HW.out.trans (hb.mono HW.out.size)); replace HX := Lib.hid (kept3 HX.out hb); replace HY := Lib.hid (kept3 HY.out hb); clear hb d0 d1 d2 d3 d4 e0 e1 e2 e3 e4; obtain ⟨d0, d1, d2, d3, d4⟩ := box5 HX.out; obtain ⟨e0, e1, e2, e3, e4⟩ := box5 HY.out))
  have z0 := fun q : Drift.Tide [] w2 [] => Drift.Tide.cell d0 (by simp) q
  have z1 := fun q : Drift.Tide [] w2 [] => Drift.Tide.cell d1 (by simp) q
  have z2 := fun q : Drift.Tide [] w2 [] => Drift.Tide.cell d2 (by simp) q
  have z3 := fun q : Drift.Tide [] w2 [] => Drift.Tide.cell d3 (by simp) q
  have z4 := fun q : Drift.Tide [] w2 [] => Drift.Tide.cell d4 (by simp) q
  clear d0 d1 d2 d3 d4 e0 e1 e2 e3 e4
  refine Drift.wp_region_drift [] [(0,[]),(2,[]),(1,[4, 5]),(3,[4, 5]),(4,[5]),(5,[])] [1, 3] [4, 5] (by kernel_rfl) (by kernel_rfl) (by simp) ?_
  simp only [Drift.pick, Drift.opsAt, List.getElem?_toArray, List.getElem?_cons_zero, List.getElem?_cons_succ, List.cons_append, List.nil_append, List.filterMap_nil, List.filterMap_cons]
  repeat (refine Drift.walk_step (fun K hK => ?_); go_simp; (refine hK _ ?_; clear hK K))
  refine Drift.walk_event rfl (Drift.mkwalk_one rfl (fun b => .pointer (some ⟨b, 0, none⟩)) (.cells #[.int .i64 0, .slice none 0 0, .slice none 0 0, .slice none 0 0, .slice none 0 0] 31) (fun W => by go_simp) fun b hb => (Drift.mkwalk_one rfl (fun b => .pointer (some ⟨b, 0, none⟩)) (.cells #[.int .i64 0, .slice none 0 0, .slice none 0 0, .slice none 0 0, .slice none 0 0] 31) (fun W => by go_simp) fun b hb => Drift.mkwalk_nil)) (fun v w => ∃ a2 : At, v = .agg #[.int .i64 lv, .slice a2.kA kn a2.kc, .slice a2.pA pn a2.pc, .slice a2.bA bn a2.bc, .slice a2.qA qn a2.qc] ∧ FrNd w W.heap.size ⟨lv, K, L, B, Q⟩ a2) (fun W2 hk _ => ?_) (fun v w5 hv hI _ hTd => ?_)
  · go_simp
    go_at_call 13
    refine (cC W2 (HW.out.trans (hk.mono HW.out.size))).out.mono ?_
    rintro e w' ⟨⟨a2, rfl, h1⟩, hb⟩
    exact ⟨_, rfl, ⟨a2, rfl, h1.mono (HW.out.trans (hk.mono HW.out.size)).size⟩, Flow.Into.of_below hb⟩
  obtain ⟨⟨kA1, kc1, pA1, pc1, bA1, bc1, qA1, qc1⟩, rfl, h1⟩ := hv
  have HC1 := Lib.hid h1
  have HB5 : Hid (Below W.heap.size W w5) := HW.out.trans (hI.below.mono HW.out.size)
  have HI5 := Lib.hid hI
  clear h1 hI hTd
  refine Drift.walk_event rfl (Drift.mkwalk_one rfl (fun b => .pointer (some ⟨b, 0, none⟩)) (.cells #[.int .i64 0, .slice none 0 0, .slice none 0 0, .slice none 0 0, .slice none 0 0] 31) (fun W => by go_simp) fun b hb => (Drift.mkwalk_one rfl (fun b => .pointer (some ⟨b, 0, none⟩)) (.cells #[.int .i64 0, .slice none 0 0, .slice none 0 0, .slice none 0 0, .slice none 0 0] 31) (fun W => by go_simp) fun b hb => Drift.mkwalk_nil)) (fun v w => ∃ a2 : At, v = .agg #[.int .i64 lv, .slice a2.kA kn a2.kc, .slice a2.pA pn a2.pc, .slice a2.bA bn a2.bc, .slice a2.qA qn a2.qc] ∧ FrNd w w5.heap.size ⟨lv, K, L, B, Q⟩ a2) (fun W2 hk _ => ?_) (fun v w6 hv hI _ hTd => ?_)
  · go_simp
    go_at_call 13
    refine (cC W2 (HB5.out.trans (hk.mono HB5.out.size))).out.mono ?_
    rintro e w' ⟨⟨a2, rfl, h1⟩, hb⟩
    exact ⟨_, rfl, ⟨a2, rfl, h1.mono hk.size⟩, Flow.Into.of_below hb⟩
  obtain ⟨⟨kA2, kc2, pA2, pc2, bA2, bc2, qA2, qc2⟩, rfl, h2⟩ := hv
  have HC2 := Lib.hid h2
  have HC1b := Lib.hid (HC1.out.kept hI.below)
  have HI6 : Hid (Flow.Into [] w2 w6) := HI5.out.trans hI
  have HFk := Lib.hid (HC1.out.kids.fs.kept hI.below)
  have HFp := Lib.hid (HC1.out.piv.fs.kept hI.below)
  have HFb := Lib.hid (HC1.out.buf.fs.kept hI.below)
  have HFq := Lib.hid (HC1.out.prs.fs.kept hI.below)
  clear h2 hI hTd cC HC1
  refine Drift.walk_make rfl (Drift.mkwalk_one rfl (fun b => .pointer (some ⟨b, 0, none⟩)) (.cells #[.int .i64 0, .slice none 0 0, .slice none 0 0, .slice none 0 0, .slice none 0 0] 31) (fun W => by go_simp) fun b hb => Drift.mkwalk_nil) (fun b => .pointer (some ⟨b, 0, none⟩)) (.cells #[.int .i64 0, .slice none 0 0, .slice none 0 0, .slice none 0 0, .slice none 0 0] 31) (fun W => by go_simp) (fun p hp hTd => ?_)
  refine Drift.walk_make_apart rfl Drift.mkwalk_nil (fun b => .pointer (some ⟨b, 0, none⟩)) (.cells #[.int .i64 0, .slice none 0 0, .slice none 0 0, .slice none 0 0, .slice none 0 0] 31) (fun W => by go_simp) (fun q hq hqp hTd => ?_)
  have hpq : q ≠ p := hqp (p, .cells #[.int .i64 0, .slice none 0 0, .slice none 0 0, .slice none 0 0, .slice none 0 0] 31) (by simp)
  clear hqp
  refine Drift.walk_nil ?_
  intro w7 hb7 hl7
  have HB7 : Hid (Below W.heap.size W w7) := HW.out.trans ((HI6.out.below.trans (hb7.mono HI6.out.size)).mono HW.out.size)
  have HX7 := Lib.hid (kept3 (kept3 HX.out HI6.out.below) hb7)
  have HY7 := Lib.hid (kept3 (kept3 HY.out HI6.out.below) hb7)
  have hgp : g + 1 < p := Nat.lt_of_lt_of_le (Array.getElem?_eq_some_iff.1 HY.out).1 hp
  have hgq : g + 1 < q := Nat.lt_of_lt_of_le (Array.getElem?_eq_some_iff.1 HY.out).1 hq
  have hWp : W.heap.size ≤ p := Nat.le_trans HW.out.size hp
  have hWq : W.heap.size ≤ q := Nat.le_trans HW.out.size hq
  replace HFk := Lib.hid (HFk.out.kept hb7)
  replace HFp := Lib.hid (HFp.out.kept hb7)
  replace HFb := Lib.hid (HFb.out.kept hb7)
  replace HFq := Lib.hid (HFq.out.kept hb7)
  replace HC2 := Lib.hid (HC2.out.kept hb7)
  replace HC1b := Lib.hid (HC1b.out.kept hb7)
  have hP := hl7 (p, .cells #[.int .i64 0, .slice none 0 0, .slice none 0 0, .slice none 0 0, .slice none 0 0] 31) (by simp)
  have hQ := hl7 (q, .cells #[.int .i64 0, .slice none 0 0, .slice none 0 0, .slice none 0 0, .slice none 0 0] 31) (by simp)
  simp only at hP hQ
  have hQ2 := (set5_other (w := w7) (.int .i64 lv) (.slice kA1 kn kc1) (.slice pA1 pn pc1) (.slice bA1 bn bc1) (.slice qA1 qn qc1) (show q ≠ p from hpq)).trans hQ
  have HB8 : Hid (Bx4 W g p q w5.heap.size #[.int .i64 lv, .slice kA kn kc, .slice pA pn pc, .slice bA bn bc, .slice qA qn qc] #[.int .i64 lv', .slice kA' kn' kc', .slice pA' pn' pc', .slice bA' bn' bc', .slice qA' qn' qc'] #[.int .i64 lv, .slice kA1 kn kc1, .slice pA1 pn pc1, .slice bA1 bn bc1, .slice qA1 qn qc1] #[.int .i64 lv, .slice kA2 kn kc2, .slice pA2 pn pc2, .slice bA2 bn bc2, .slice qA2 qn qc2] ⟨lv, K, L, B, Q⟩ ⟨kA2, kc2, pA2, pc2, bA2, bc2, qA2, qc2⟩ (set5 (set5 w7 p (.int .i64 lv) (.slice kA1 kn kc1) (.slice pA1 pn pc1) (.slice bA1 bn bc1) (.slice qA1 qn qc1)) q (.int .i64 lv) (.slice kA2 kn kc2) (.slice pA2 pn pc2) (.slice bA2 bn bc2) (.slice qA2 qn qc2))) := by
    refine ⟨set5_below (set5_below HB7.out hWp _ _ _ _ _) hWq _ _ _ _ _, ?_, ?_, ?_, set5_at hQ2 _ _ _ _ _, (HC2.out.into5 hP _ _ _ _ _).into5 hQ2 _ _ _ _ _⟩
    · rw [set5_other _ _ _ _ _ (by omega), set5_other _ _ _ _ _ (by omega)]
      exact HX7.out
    · rw [set5_other _ _ _ _ _ (by omega), set5_other _ _ _ _ _ (by omega)]
      exact HY7.out
    · rw [set5_other _ _ _ _ _ (by omega)]
      exact set5_at hP _ _ _ _ _
  replace HFk := Lib.hid ((HFk.out.into5 hP (by decide) (.int .i64 lv) (.slice kA1 kn kc1) (.slice pA1 pn pc1) (.slice bA1 bn bc1) (.slice qA1 qn qc1)).into5 hQ2 (by decide) (.int .i64 lv) (.slice kA2 kn kc2) (.slice pA2 pn pc2) (.slice bA2 bn bc2) (.slice qA2 qn qc2))
  replace HFp := Lib.hid ((HFp.out.into5 hP (by decide) (.int .i64 lv) (.slice kA1 kn kc1) (.slice pA1 pn pc1) (.slice bA1 bn bc1) (.slice qA1 qn qc1)).into5 hQ2 (by decide) (.int .i64 lv) (.slice kA2 kn kc2) (.slice pA2 pn pc2) (.slice bA2 bn bc2) (.slice qA2 qn qc2))
  replace HFb := Lib.hid ((HFb.out.into5 hP (by decide) (.int .i64 lv) (.slice kA1 kn kc1) (.slice pA1 pn pc1) (.slice bA1 bn bc1) (.slice qA1 qn qc1)).into5 hQ2 (by decide) (.int .i64 lv) (.slice kA2 kn kc2) (.slice pA2 pn pc2) (.slice bA2 bn bc2) (.slice qA2 qn qc2))
  replace HFq := Lib.hid ((HFq.out.into5 hP (by decide) (.int .i64 lv) (.slice kA1 kn kc1) (.slice pA1 pn pc1) (.slice bA1 bn bc1) (.slice qA1 qn qc1)).into5 hQ2 (by decide) (.int .i64 lv) (.slice kA2 kn kc2) (.slice pA2 pn pc2) (.slice bA2 bn bc2) (.slice qA2 qn qc2))
  replace HC1b := Lib.hid ((HC1b.out.into5 hP (.int .i64 lv) (.slice kA1 kn kc1) (.slice pA1 pn pc1) (.slice bA1 bn bc1) (.slice qA1 qn qc1)).into5 hQ2 (.int .i64 lv) (.slice kA2 kn kc2) (.slice pA2 pn pc2) (.slice bA2 bn bc2) (.slice qA2 qn qc2))
  have p0 := free3 hP 0
  have p1 := free3 hP 1
  have p2 := free3 hP 2
  have p3 := free3 hP 3
  have p4 := free3 hP 4
  have q0 := free3 hQ 0
  have q1 := free3 hQ 1
  have q2 := free3 hQ 2
  have q3 := free3 hQ 3
  have q4 := free3 hQ 4
  obtain ⟨x0, x1, x2, x3, x4⟩ := box5 hP
  obtain ⟨y0, y1, y2, y3, y4⟩ := box5 hQ
  unfold set5 at HB8 HFk HFp HFb HFq HC1b
  clear hP hQ hQ2 hb7 hl7 HB7 HX7 HY7 HC2 z0 z1 z2 z3 z4 HW HX HY HI6 HI5 HB5 hgp hgq hp hq hTd
  simp only [List.length_cons, List.length_nil, List.drop_succ_cons, Nat.zero_add, Nat.reduceAdd]
  go_upto_region 4 with fail

  generalize ((((((((((w7.setCell ⟨p, 0, none⟩ (.int .i64 lv)).setCell ⟨p, 1, none⟩ (.slice kA1 kn kc1)).setCell ⟨p, 2, none⟩ (.slice pA1 pn pc1)).setCell ⟨p, 3, none⟩ (.slice bA1 bn bc1)).setCell ⟨p, 4, none⟩ (.slice qA1 qn qc1)).setCell ⟨q, 0, none⟩ (.int .i64 lv)).setCell ⟨q, 1, none⟩ (.slice kA2 kn kc2)).setCell ⟨q, 2, none⟩ (.slice pA2 pn pc2)).setCell ⟨q, 3, none⟩ (.slice bA2 bn bc2)).setCell ⟨q, 4, none⟩ (.slice qA2 qn qc2)) = w8 at *
  simp only at HFk HFp HFb HFq
  have HI1 := Lib.hid HC1b.out.in_
  have cA : ∀ w, Below w8.heap.size w8 w → Hid (Calls Try.prog 15 #[.agg #[.int .i64 lv, .slice kA kn kc, .slice pA pn pc, .slice bA bn bc, .slice qA qn qc], .agg #[.int .i64 lv, .slice kA1 kn kc1, .slice pA1 pn pc1, .slice bA1 bn bc1, .slice qA1 qn qc1]] w fun e w' => e = .returned (.bool true) ∧ Below w.heap.size w w') := fun w hb => cO w (HB8.out.below.trans (hb.mono HB8.out.below.size)) ⟨kA1, kc1, pA1, pc1, bA1, bc1, qA1, qc1⟩ (HI1.out.kept hb)
  have cW : ∀ w, Bx4 W g p q w5.heap.size #[.int .i64 lv, .slice kA kn kc, .slice pA pn pc, .slice bA bn bc, .slice qA qn qc] #[.int .i64 lv', .slice kA' kn' kc', .slice pA' pn' pc', .slice bA' bn' bc', .slice qA' qn' qc'] #[.int .i64 lv, .slice kA1 kn kc1, .slice pA1 pn pc1, .slice bA1 bn bc1, .slice qA1 qn qc1] #[.int .i64 lv, .slice kA2 kn kc2, .slice pA2 pn pc2, .slice bA2 bn bc2, .slice qA2 qn qc2] ⟨lv, K, L, B, Q⟩ ⟨kA2, kc2, pA2, pc2, bA2, bc2, qA2, qc2⟩ w → Hid (Calls Try.prog 15 #[.agg #[.int .i64 lv, .slice kA kn kc, .slice pA pn pc, .slice bA bn bc, .slice qA qn qc], .agg #[.int .i64 lv, .slice kA2 kn kc2, .slice pA2 pn pc2, .slice bA2 bn bc2, .slice qA2 qn qc2]] w fun e w' => e = .returned (.bool true) ∧ Below w.heap.size w w') := fun w h => cO w h.below ⟨kA2, kc2, pA2, pc2, bA2, bc2, qA2, qc2⟩ h.was.in_
  clear cO HI1 HC1b p0 p1 p2 p3 p4 q0 q1 q2 q3 q4 x0 x1 x2 x3 x4 y0 y1 y2 y3 y4
  obtain ⟨d0, d1, d2, d3, d4⟩ := box5 HB8.out.x
  obtain ⟨e0, e1, e2, e3, e4⟩ := box5 HB8.out.y
  obtain ⟨x0, x1, x2, x3, x4⟩ := box5 HB8.out.z
  have d0' := fun q : Drift.Tide [] w8 [] => Drift.Tide.cell d0 (by simp) q
  have d1' := fun q : Drift.Tide [] w8 [] => Drift.Tide.cell d1 (by simp) q
  have d2' := fun q : Drift.Tide [] w8 [] => Drift.Tide.cell d2 (by simp) q
  have d3' := fun q : Drift.Tide [] w8 [] => Drift.Tide.cell d3 (by simp) q
  have d4' := fun q : Drift.Tide [] w8 [] => Drift.Tide.cell d4 (by simp) q
  have e0' := fun q : Drift.Tide [] w8 [] => Drift.Tide.cell e0 (by simp) q
  have e1' := fun q : Drift.Tide [] w8 [] => Drift.Tide.cell e1 (by simp) q
  have e2' := fun q : Drift.Tide [] w8 [] => Drift.Tide.cell e2 (by simp) q
  have e3' := fun q : Drift.Tide [] w8 [] => Drift.Tide.cell e3 (by simp) q
  have e4' := fun q : Drift.Tide [] w8 [] => Drift.Tide.cell e4 (by simp) q
  have x0' := fun q : Drift.Tide [] w8 [] => Drift.Tide.cell x0 (by simp) q
  have x1' := fun q : Drift.Tide [] w8 [] => Drift.Tide.cell x1 (by simp) q
  have x2' := fun q : Drift.Tide [] w8 [] => Drift.Tide.cell x2 (by simp) q
  have x3' := fun q : Drift.Tide [] w8 [] => Drift.Tide.cell x3 (by simp) q
  have x4' := fun q : Drift.Tide [] w8 [] => Drift.Tide.cell x4 (by simp) q
  clear d0 d1 d2 d3 d4 e0 e1 e2 e3 e4 x0 x1 x2 x3 x4
  have hrr : (r != r) = false := bne_self_eq_false r
  refine Drift.wp_region_drift [] [(0,[]),(1,[]),(2,[]),(3,[]),(4,[]),(5,[]),(6,[]),(7,[]),(8,[]),(9,[]),(10,[]),(11,[]),(12,[])] [] [] (by kernel_rfl) (by kernel_rfl) (by simp) ?_
  simp only [Drift.pick, Drift.opsAt, List.getElem?_toArray, List.getElem?_cons_zero, List.getElem?_cons_succ, List.cons_append, List.nil_append, List.filterMap_nil]
  refine Drift.walk_step (fun K hK => ?_); go_simp; refine hK _ ?_; clear hK K
  refine Drift.walk_step (fun K hK => ?_); go_simp; refine hK _ ?_; clear hK K
  refine Drift.walk_step (fun K hK => ?_); go_simp; apply Exists.intro; refine ⟨fun q => ?_, hK _ ?_⟩; (go_at_call 14; exact (cS _ (HB8.out.below.trans (q.into.below.mono HB8.out.below.size))).out); clear hK K
  refine Drift.walk_step (fun K hK => ?_); go_simp; refine hK _ ?_; clear hK K
  refine Drift.walk_step (fun K hK => ?_); go_simp; refine hK _ ?_; clear hK K
  refine Drift.walk_step (fun K hK => ?_); go_simp; apply Exists.intro; refine ⟨fun q => ?_, hK _ ?_⟩; (go_at_call 15; exact (cD _ (HB8.out.below.trans (q.into.below.mono HB8.out.below.size))).out); clear hK K
  refine Drift.walk_step (fun K hK => ?_); go_simp; refine hK _ ?_; clear hK K
  refine Drift.walk_step (fun K hK => ?_); go_simp; refine hK _ ?_; clear hK K
  refine Drift.walk_step (fun K hK => ?_); go_simp; refine hK _ ?_; clear hK K
  refine Drift.walk_step (fun K hK => ?_); go_simp; refine hK _ ?_; clear hK K
  refine Drift.walk_step (fun K hK => ?_); go_simp; apply Exists.intro; refine ⟨fun q => ?_, hK _ ?_⟩; (go_at_call 15; exact (cA _ q.into.below).out); clear hK K
  refine Drift.walk_step (fun K hK => ?_); go_simp; refine hK _ ?_; clear hK K
  refine Drift.walk_step (fun K hK => ?_); go_simp; refine hK _ ?_; clear hK K
  refine Drift.walk_nil ?_
  intro w9 hb9 _
  have HB := Lib.hid (HB8.out.kept hb9)
  replace HFk := Lib.hid (HFk.out.kept hb9)
  replace HFp := Lib.hid (HFp.out.kept hb9)
  replace HFb := Lib.hid (HFb.out.kept hb9)
  replace HFq := Lib.hid (HFq.out.kept hb9)
  clear hb9 HB8 d0' d1' d2' d3' d4' e0' e1' e2' e3' e4' x0' x1' x2' x3' x4' cS cD cA hrr
  simp only [List.length_cons, List.length_nil, List.drop_succ_cons, List.drop_nil, Nat.zero_add, Nat.reduceAdd]
  go_upto_region 6 with fail
  obtain ⟨d0, d1, d2, d3, d4⟩ := box5 HB.out.z
  go_upto_if 34 with fail
  go_cut [] (fun wx => Hid (Bx4 W g p q w5.heap.size #[.int .i64 lv, .slice kA kn kc, .slice pA pn pc, .slice bA bn bc, .slice qA qn qc] #[.int .i64 lv', .slice kA' kn' kc', .slice pA' pn' pc', .slice bA' bn' bc', .slice qA' qn' qc'] #[.int .i64 lv, .slice kA1 kn kc1, .slice pA1 pn pc1, .slice bA1 bn bc1, .slice qA1 qn qc1] #[.int .i64 lv, .slice kA2 kn kc2, .slice pA2 pn pc2, .slice bA2 bn bc2, .slice qA2 qn qc2] ⟨lv, K, L, B, Q⟩ ⟨kA2, kc2, pA2, pc2, bA2, bc2, qA2, qc2⟩ wx) ∧ Hid (Fs MgK W.heap.size w5.heap.size bA1 B wx) ∧ Hid (Fs PrK W.heap.size w5.heap.size qA1 Q wx) ∧ Hid (Fs StK W.heap.size w5.heap.size pA1 L wx))
  case first =>
    by_cases h0 : 0 < kn
    · obtain ⟨gk, ok, C, x, e, b1, b2, hh, hx, hc⟩ := HFk.out (by rw [HKN.out]; exact h0)
      subst e
      have c0 := hc 0 (.int .u32 (x : Int)) rfl
      have f0 := free3 hh (ok + 0)
      have HS := fun u => Lib.hid (HB.out.set (i := ok + 0) b1 b2 hh (by decide) u)
      have HTb := fun u => Lib.hid (HFb.out.other (i := ok + 0) hh (by decide) u)
      have HTq := fun u => Lib.hid (HFq.out.other (i := ok + 0) hh (by decide) u)
      have HTp := fun u => Lib.hid (HFp.out.other (i := ok + 0) hh (by decide) u)
      simp only [Nat.add_zero] at c0 f0 HS HTb HTq HTp
      skip
      clear hh hc hx HFk HB
      go_wp2_with fail
      go_meet
      exact ⟨HS _, HTb _, HTq _, HTp _⟩
    · obtain rfl : kn = 0 := by omega
      clear h0
      go_wp2_with fail
      go_meet
      exact ⟨HB, HFb, HFq, HFp⟩
  case rest =>
  clear d0 d1 d2 d3 d4 HB HFk HFb HFq HFp
  obtain ⟨HB, HFb, HFq, HFp⟩ := hcut
  skip
  obtain ⟨d0, d1, d2, d3, d4⟩ := box5 HB.out.z
  go_upto_if 44 with fail
  go_cut [] (fun wx => Hid (Bx4 W g p q w5.heap.size #[.int .i64 lv, .slice kA kn kc, .slice pA pn pc, .slice bA bn bc, .slice qA qn qc] #[.int .i64 lv', .slice kA' kn' kc', .slice pA' pn' pc', .slice bA' bn' bc', .slice qA' qn' qc'] #[.int .i64 lv, .slice kA1 kn kc1, .slice pA1 pn pc1, .slice bA1 bn bc1, .slice qA1 qn qc1] #[.int .i64 lv, .slice kA2 kn kc2, .slice pA2 pn pc2, .slice bA2 bn bc2, .slice qA2 qn qc2] ⟨lv, K, L, B, Q⟩ ⟨kA2, kc2, pA2, pc2, bA2, bc2, qA2, qc2⟩ wx) ∧ Hid (Fs PrK W.heap.size w5.heap.size qA1 Q wx) ∧ Hid (Fs StK W.heap.size w5.heap.size pA1 L wx))
  case first =>
    by_cases h0 : 0 < bn
    · obtain ⟨gk, ok, C, x, e, b1, b2, hh, hx, hc⟩ := HFb.out (by rw [HBN.out]; exact h0)
      subst e
      have c0 := hc 0 (.string x.1) rfl
      have f0 := free3 hh (ok + 0)
      have HS := fun u => Lib.hid (HB.out.set (i := ok + 0) b1 b2 hh (by decide) u)
      have HTq := fun u => Lib.hid (HFq.out.other (i := ok + 0) hh (by decide) u)
      have HTp := fun u => Lib.hid (HFp.out.other (i := ok + 0) hh (by decide) u)
      simp only [Nat.add_zero] at c0 f0 HS HTq HTp
      have hle : x.1.size < 140737488355328 := by
        have := HBK.out x (List.mem_of_getElem? hx)
        omega
      clear hh hc hx HFb HB
      go_wp2_with fail
      go_meet
      exact ⟨HS _, HTq _, HTp _⟩
    · obtain rfl : bn = 0 := by omega
      clear h0
      go_wp2_with fail
      go_meet
      exact ⟨HB, HFq, HFp⟩
  case rest =>
  clear d0 d1 d2 d3 d4 HB HFb HFq HFp
  obtain ⟨HB, HFq, HFp⟩ := hcut
  skip
  obtain ⟨d0, d1, d2, d3, d4⟩ := box5 HB.out.z
  go_upto_if 56 with fail
  go_cut [] (fun wx => Hid (Bx4 W g p q w5.heap.size #[.int .i64 lv, .slice kA kn kc, .slice pA pn pc, .slice bA bn bc, .slice qA qn qc] #[.int .i64 lv', .slice kA' kn' kc', .slice pA' pn' pc', .slice bA' bn' bc', .slice qA' qn' qc'] #[.int .i64 lv, .slice kA1 kn kc1, .slice pA1 pn pc1, .slice bA1 bn bc1, .slice qA1 qn qc1] #[.int .i64 lv, .slice kA2 kn kc2, .slice pA2 pn pc2, .slice bA2 bn bc2, .slice qA2 qn qc2] ⟨lv, K, L, B, Q⟩ ⟨kA2, kc2, pA2, pc2, bA2, bc2, qA2, qc2⟩ wx) ∧ Hid (Fs StK W.heap.size w5.heap.size pA1 L wx))
  case first =>
    by_cases h0 : 0 < qn
    · obtain ⟨gk, ok, C, x, e, b1, b2, hh, hx, hc⟩ := HFq.out (by rw [HQN.out]; exact h0)
      subst e
      have c0 := hc 1 (.string x.2) rfl
      have f0 := free3 hh (ok + 1)
      have HS := fun u => Lib.hid (HB.out.set (i := ok + 1) b1 b2 hh (by decide) u)
      have HTp := fun u => Lib.hid (HFp.out.other (i := ok + 1) hh (by decide) u)
      skip
      have hle : x.2.size < 140737488355328 := by
        have := HVAL.out x (List.mem_of_getElem? hx)
        unfold reachBytes at this
        omega
      clear hh hc hx HFq HB
      go_wp2_with fail
      go_meet
      exact ⟨HS _, HTp _⟩
    · obtain rfl : qn = 0 := by omega
      clear h0
      go_wp2_with fail
      go_meet
      exact ⟨HB, HFp⟩
  case rest =>
  clear d0 d1 d2 d3 d4 HB HFq HFp
  obtain ⟨HB, HFp⟩ := hcut
  skip
  obtain ⟨d0, d1, d2, d3, d4⟩ := box5 HB.out.z
  go_upto_if 68 with fail
  go_cut [] (fun wx => Hid (Bx4 W g p q w5.heap.size #[.int .i64 lv, .slice kA kn kc, .slice pA pn pc, .slice bA bn bc, .slice qA qn qc] #[.int .i64 lv', .slice kA' kn' kc', .slice pA' pn' pc', .slice bA' bn' bc', .slice qA' qn' qc'] #[.int .i64 lv, .slice kA1 kn kc1, .slice pA1 pn pc1, .slice bA1 bn bc1, .slice qA1 qn qc1] #[.int .i64 lv, .slice kA2 kn kc2, .slice pA2 pn pc2, .slice bA2 bn bc2, .slice qA2 qn qc2] ⟨lv, K, L, B, Q⟩ ⟨kA2, kc2, pA2, pc2, bA2, bc2, qA2, qc2⟩ wx))
  case first =>
    by_cases h0 : 0 < pn
    · obtain ⟨gk, ok, C, x, e, b1, b2, hh, hx, hc⟩ := HFp.out (by rw [HPN.out]; exact h0)
      subst e
      have c0 := hc 0 (.string x) rfl
      have f0 := free3 hh (ok + 0)
      have HS := fun u => Lib.hid (HB.out.set (i := ok + 0) b1 b2 hh (by decide) u)

      simp only [Nat.add_zero] at c0 f0 HS
      have hle : x.size < 140737488355328 := by
        have := HPK.out x (List.mem_of_getElem? hx)
        omega
      clear hh hc hx HFp HB
      go_wp2_with fail
      go_meet
      exact HS _
    · obtain rfl : pn = 0 := by omega
      clear h0
      go_wp2_with fail
      go_meet
      exact HB
  case rest =>
  clear d0 d1 d2 d3 d4 HB HFp 
  have HB := hcut
  have HBW := Lib.hid HB.out.below
  obtain ⟨d0, d1, d2, d3, d4⟩ := box5 HB.out.x
  obtain ⟨e0, e1, e2, e3, e4⟩ := box5 HB.out.v
  go_wp2_with (first | (go_at_call 15; refine (cW _ HB.out).out.mono ?_; rintro e w11 ⟨rfl, hb⟩; replace HBW := Lib.hid (HBW.out.trans (hb.mono HBW.out.size))) | (go_at_call 8; refine (awake_any _).mono ?_; rintro e w12 ⟨rfl, hb2⟩; replace HBW := Lib.hid (HBW.out.trans (hb2.mono HBW.out.size))))
  go_ret
  exact ⟨rfl, HBW.out⟩
end No
end Go.Proofs.Ytlcdjbleeanpbaa
