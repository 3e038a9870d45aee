/-
  PourR1. Put together by pack.py.
-/
import Derived.Test.YtlabbmfiecbigaaPkAL
import Derived.Test.YtlabbmfiecbigaaPkAH
import Derived.Test.YtlabbmfiecbigaaDrift

namespace Go.Proofs.Ytlabbmfiecbigaa
open Go.RowKit
namespace No
open Mem Lx Bu Lf Fa
/-- what Pour tells -/
def EvPour (h : Nd × Nd × Nat) (v : Value) (w : World) : Prop := ∃ z z', v = .tuple #[.agg (ndCs h.1 z), .agg (ndCs h.2.1 z'), .int .i64 (h.2.2 : Int)] ∧ NdIn w h.1 z ∧ NdIn w h.2.1 z'
set_option maxRecDepth 100000 in
set_option maxHeartbeats 16000000 in
theorem RPour_no {W : World} (c : Cfg) {p k : Nd} {a b : At} (ha : NdIn W p a) (hb : NdIn W k b) (i most : Int) (hw : 0 ≤ i → i < (p.kids.length : Int) → IntKind.i64.wrap (k.lv + 1) = k.lv + 1) (hn : NoPour p i k) : Calls Try.prog 8 #[.agg (cfCs c), .agg (ndCs p a), .int .i64 i, .agg (ndCs k b), .int .i64 most] W fun e w' => (∃ v, e = .returned v ∧ EvPour (pourN c p i k most) v w') ∧ Below W.heap.size W w' := by
  rw [pourN_no hn]
  have HP : Hid (∀ {w'}, Below W.heap.size W w' → EvPour (p, k, 0) (.tuple #[.agg (ndCs p a), .agg (ndCs k b), .int .i64 0]) w') := fun hb' => ⟨a, b, rfl, ha.kept hb', hb.kept hb'⟩
  generalize EvPour (p, k, 0) = E at *
  unfold NoPour at hn
  obtain ⟨cB, cY, cF, cN, cU, cL, cKy, cV⟩ := c
  obtain ⟨lv, K, P, B, Q⟩ := p
  obtain ⟨lv2, K2, P2, B2, Q2⟩ := k
  obtain ⟨kA, kc, pA, pc, bA, bc, qA, qc⟩ := a
  obtain ⟨kA2, kc2, pA2, pc2, bA2, bc2, qA2, qc2⟩ := b
  unfold ndCs cfCs at *
  simp only at *
  generalize hkn : K.length = kn at *
  have HKN := Lib.hid hkn
  generalize hpn : P.length = pn at *
  have HPN := Lib.hid hpn
  generalize hbn : B.length = bn at *
  have HBN := Lib.hid hbn
  generalize hqn : Q.length = qn at *
  have HQN := Lib.hid hqn
  generalize hkn2 : K2.length = kn2 at *
  have HKN2 := Lib.hid hkn2
  generalize hpn2 : P2.length = pn2 at *
  have HPN2 := Lib.hid hpn2
  generalize hbn2 : B2.length = bn2 at *
  have HBN2 := Lib.hid hbn2
  generalize hqn2 : Q2.length = qn2 at *
  have HQN2 := Lib.hid hqn2
  clear ha hb hkn hpn hbn hqn hkn2 hpn2 hbn2 hqn2
  go_enter Try.func8, Try.ntmps8
  go_upto_region 1 with fail
  have HX5 := Lib.hid (Q5.new W (.cells #[.int .i64 cB, .int .i64 cY, .int .i64 cF, .int .i64 cN, .int .i64 cU, .int .i64 cL, .int .i64 cKy, .int .i64 cV] 23) (.cells #[.int .i64 lv, .slice kA kn kc, .slice pA pn pc, .slice bA bn bc, .slice qA qn qc] 29) (.cells #[.int .i64 lv2, .slice kA2 kn2 kc2, .slice pA2 pn2 pc2, .slice bA2 bn2 bc2, .slice qA2 qn2 qc2] 29) (.cells #[.int .i64 0, .slice none 0 0, .slice none 0 0, .slice none 0 0, .slice none 0 0] 29) (.cells #[.int .i64 0, .slice none 0 0, .slice none 0 0, .slice none 0 0, .slice none 0 0] 29))
  generalize ((((W.alloc (.cells #[.int .i64 cB, .int .i64 cY, .int .i64 cF, .int .i64 cN, .int .i64 cU, .int .i64 cL, .int .i64 cKy, .int .i64 cV] 23)).alloc (.cells #[.int .i64 lv, .slice kA kn kc, .slice pA pn pc, .slice bA bn bc, .slice qA qn qc] 29)).alloc (.cells #[.int .i64 lv2, .slice kA2 kn2 kc2, .slice pA2 pn2 pc2, .slice bA2 bn2 bc2, .slice qA2 qn2 qc2] 29)).alloc (.cells #[.int .i64 0, .slice none 0 0, .slice none 0 0, .slice none 0 0, .slice none 0 0] 29)).alloc (.cells #[.int .i64 0, .slice none 0 0, .slice none 0 0, .slice none 0 0, .slice none 0 0] 29) = w1 at *
  obtain ⟨g, hg⟩ : ∃ g, g = W.heap.size := ⟨_, rfl⟩
  rw [← hg] at HX5
  simp only [← hg]
  clear hg
  obtain ⟨d0, d1, d2, d3, d4⟩ := box5 HX5.out.b3.y
  obtain ⟨e0, e1, e2, e3, e4⟩ := box5 HX5.out.b3.z
  rcases Int.lt_or_le i 0 with hi | hi
  · clear hn hw
    go_upto_region 2 with fail
    clear d0 d1 d2 d3 d4 e0 e1 e2 e3 e4
    obtain ⟨m0, m1, m2, m3, m4⟩ := box5 HX5.out.b3.y
    obtain ⟨n0, n1, n2, n3, n4⟩ := box5 HX5.out.b3.z
    have hgm : g + 1 ∉ [g + 1 + 1 + 1, g + 1 + 1 + 1 + 1] := by simp
    have hgn : g + 1 + 1 ∉ [g + 1 + 1 + 1, g + 1 + 1 + 1 + 1] := by simp
    have tm0 := fun q : Drift.Tide [g + 1 + 1 + 1, g + 1 + 1 + 1 + 1] w1 [] => Drift.Tide.cell m0 hgm q
    have tm1 := fun q : Drift.Tide [g + 1 + 1 + 1, g + 1 + 1 + 1 + 1] w1 [] => Drift.Tide.cell m1 hgm q
    have tm2 := fun q : Drift.Tide [g + 1 + 1 + 1, g + 1 + 1 + 1 + 1] w1 [] => Drift.Tide.cell m2 hgm q
    have tm3 := fun q : Drift.Tide [g + 1 + 1 + 1, g + 1 + 1 + 1 + 1] w1 [] => Drift.Tide.cell m3 hgm q
    have tm4 := fun q : Drift.Tide [g + 1 + 1 + 1, g + 1 + 1 + 1 + 1] w1 [] => Drift.Tide.cell m4 hgm q
    have tn0 := fun q : Drift.Tide [g + 1 + 1 + 1, g + 1 + 1 + 1 + 1] w1 [] => Drift.Tide.cell n0 hgn q
    have tn1 := fun q : Drift.Tide [g + 1 + 1 + 1, g + 1 + 1 + 1 + 1] w1 [] => Drift.Tide.cell n1 hgn q
    have tn2 := fun q : Drift.Tide [g + 1 + 1 + 1, g + 1 + 1 + 1 + 1] w1 [] => Drift.Tide.cell n2 hgn q
    have tn3 := fun q : Drift.Tide [g + 1 + 1 + 1, g + 1 + 1 + 1 + 1] w1 [] => Drift.Tide.cell n3 hgn q
    have tn4 := fun q : Drift.Tide [g + 1 + 1 + 1, g + 1 + 1 + 1 + 1] w1 [] => Drift.Tide.cell n4 hgn q
    have hS : ∀ k, k ∈ [g + 1 + 1 + 1, g + 1 + 1 + 1 + 1] → k < w1.heap.size := fun k hk => by
      have h9 := HX5.out.size
      have : k = g + 1 + 1 + 1 ∨ k = g + 1 + 1 + 1 + 1 := by simpa using hk
      omega
    clear m0 m1 m2 m3 m4 n0 n1 n2 n3 n4 hgm hgn
    refine Drift.wp_region_drift [g + 1 + 1 + 1, g + 1 + 1 + 1 + 1] [(0,[]),(1,[]),(2,[]),(3,[]),(4,[])] [2, 3] [] (by kernel_rfl) (by kernel_rfl) hS ?_
    clear hS
    simp only [Drift.pick, Drift.opsAt, List.getElem?_toArray, List.getElem?_cons_zero, List.getElem?_cons_succ, List.cons_append, List.nil_append, List.filterMap_nil]
    repeat (refine Drift.walk_step (fun K hK => ?_); go_simp; (refine hK _ ?_; clear hK K))
    refine Drift.walk_event rfl Drift.mkwalk_nil (EvFill w1 (g + 1 + 1 + 1) #[.int .i64 lv, .slice kA kn kc, .slice pA pn pc, .slice bA bn bc, .slice qA qn qc]) (fun W2 hk _ => ?_) (fun v w20 hv hI _ hTd1 => ?_)
    · have hy := (HX5.out.kept hk).m
      obtain ⟨s0, s1, s2, s3, s4⟩ := box5 hy
      have y0 := free5 hy 0; have y1 := free5 hy 1; have y2 := free5 hy 2; have y3 := free5 hy 3; have y4 := free5 hy 4
      have hs5 := set5_at hy (.int .i64 lv) (.slice kA kn kc) (.slice pA pn pc) (.slice bA bn bc) (.slice qA qn qc)
      have hi5 := into_set5 W2 (g + 1 + 1 + 1) (.int .i64 lv) (.slice kA kn kc) (.slice pA pn pc) (.slice bA bn bc) (.slice qA qn qc)
      unfold set5 at hs5 hi5
      have HS5 := Lib.hid hs5
      have HI4 := Lib.hid hi5
      have HI5 : Hid (Flow.Into [g + 1 + 1 + 1] w1 _) := (Flow.Into.of_below hk).trans hi5
      clear hs5 hi5 hy
      go_simp
      exact ⟨⟨rfl, HS5.out, HI5.out⟩, into_wide HI4.out (by simp)⟩
    obtain ⟨rfl, hv1, hi1⟩ := hv
    have HZ : Hid (w20.heap[g + 1 + 1 + 1 + 1]? = some (.cells #[.int .i64 0, .slice none 0 0, .slice none 0 0, .slice none 0 0, .slice none 0 0] 29)) := (hi1.block (g + 1 + 1 + 1 + 1) HX5.out.size (by simp)).trans HX5.out.n
    clear hI
    refine Drift.walk_event rfl Drift.mkwalk_nil (EvFill w20 (g + 1 + 1 + 1 + 1) #[.int .i64 lv2, .slice kA2 kn2 kc2, .slice pA2 pn2 pc2, .slice bA2 bn2 bc2, .slice qA2 qn2 qc2]) (fun W2 hk _ => ?_) (fun v w21 hv hI _ hTd2 => ?_)
    · have hy := kept3 HZ.out hk
      obtain ⟨s0, s1, s2, s3, s4⟩ := box5 hy
      have y0 := free5 hy 0; have y1 := free5 hy 1; have y2 := free5 hy 2; have y3 := free5 hy 3; have y4 := free5 hy 4
      have hs5 := set5_at hy (.int .i64 lv2) (.slice kA2 kn2 kc2) (.slice pA2 pn2 pc2) (.slice bA2 bn2 bc2) (.slice qA2 qn2 qc2)
      have hi5 := into_set5 W2 (g + 1 + 1 + 1 + 1) (.int .i64 lv2) (.slice kA2 kn2 kc2) (.slice pA2 pn2 pc2) (.slice bA2 bn2 bc2) (.slice qA2 qn2 qc2)
      unfold set5 at hs5 hi5
      have HS5 := Lib.hid hs5
      have HI4 := Lib.hid hi5
      have HI5 : Hid (Flow.Into [g + 1 + 1 + 1 + 1] w20 _) := (Flow.Into.of_below hk).trans hi5
      clear hs5 hi5 hy
      go_simp
      exact ⟨⟨rfl, HS5.out, HI5.out⟩, into_wide HI4.out (by simp)⟩
    obtain ⟨rfl, hv2, hi2⟩ := hv
    clear hI HZ
    repeat (refine Drift.walk_step (fun K hK => ?_); go_simp; (refine hK _ ?_; clear hK K))
    refine Drift.walk_nil ?_
    intro w22 hb22 _
    have HI : Hid (Flow.Into [g + 1 + 1 + 1, g + 1 + 1 + 1 + 1] w1 w22) := ((into_wide hi1 (by simp)).trans (into_wide hi2 (by simp))).trans (Flow.Into.of_below hb22)
    have hy1 := (hi2.block (g + 1 + 1 + 1) (Array.getElem?_eq_some_iff.1 hv1).1 (by simp)).trans hv1
    obtain ⟨s0, s1, s2, s3, s4⟩ := box5 (kept3 hy1 hb22)
    obtain ⟨u0, u1, u2, u3, u4⟩ := box5 (kept3 hv2 hb22)
    have HBW : Hid (Below W.heap.size W w22) := below_fill HX5.out.b3.below HI.out (fun k hk => by
      have h9 := HX5.out.b3.at_
      have : k = g + 1 + 1 + 1 ∨ k = g + 1 + 1 + 1 + 1 := by simpa using hk
      omega) HX5.out.b3.below.size
    clear hTd1 hTd2 hv1 hv2 hi1 hi2 hy1 hb22 tm0 tm1 tm2 tm3 tm4 tn0 tn1 tn2 tn3 tn4
    simp only [List.length_cons, List.length_nil, List.drop_succ_cons, List.drop_nil, Nat.zero_add, Nat.reduceAdd]
    go_wp2_with fail
    exact bodyPost_ret (v := .tuple #[.agg #[.int .i64 lv, .slice kA kn kc, .slice pA pn pc, .slice bA bn bc, .slice qA qn qc], .agg #[.int .i64 lv2, .slice kA2 kn2 kc2, .slice pA2 pn2 pc2, .slice bA2 bn2 bc2, .slice qA2 qn2 qc2], .int .i64 0]) (by simp [results, Try.results8, go_sem, s0, s1, s2, s3, s4, u0, u1, u2, u3, u4]) rfl ⟨⟨_, rfl, HP.out HBW.out⟩, HBW.out⟩
  rcases Int.lt_or_le i (kn : Int) with hi2 | hi2
  · replace hw := hw hi hi2
    have hl : (lv != lv2 + 1) = true := by simp; omega
    clear hn
    go_upto_region 2 with fail
    clear d0 d1 d2 d3 d4 e0 e1 e2 e3 e4
    obtain ⟨m0, m1, m2, m3, m4⟩ := box5 HX5.out.b3.y
    obtain ⟨n0, n1, n2, n3, n4⟩ := box5 HX5.out.b3.z
    have hgm : g + 1 ∉ [g + 1 + 1 + 1, g + 1 + 1 + 1 + 1] := by simp
    have hgn : g + 1 + 1 ∉ [g + 1 + 1 + 1, g + 1 + 1 + 1 + 1] := by simp
    have tm0 := fun q : Drift.Tide [g + 1 + 1 + 1, g + 1 + 1 + 1 + 1] w1 [] => Drift.Tide.cell m0 hgm q
    have tm1 := fun q : Drift.Tide [g + 1 + 1 + 1, g + 1 + 1 + 1 + 1] w1 [] => Drift.Tide.cell m1 hgm q
    have tm2 := fun q : Drift.Tide [g + 1 + 1 + 1, g + 1 + 1 + 1 + 1] w1 [] => Drift.Tide.cell m2 hgm q
    have tm3 := fun q : Drift.Tide [g + 1 + 1 + 1, g + 1 + 1 + 1 + 1] w1 [] => Drift.Tide.cell m3 hgm q
    have tm4 := fun q : Drift.Tide [g + 1 + 1 + 1, g + 1 + 1 + 1 + 1] w1 [] => Drift.Tide.cell m4 hgm q
    have tn0 := fun q : Drift.Tide [g + 1 + 1 + 1, g + 1 + 1 + 1 + 1] w1 [] => Drift.Tide.cell n0 hgn q
    have tn1 := fun q : Drift.Tide [g + 1 + 1 + 1, g + 1 + 1 + 1 + 1] w1 [] => Drift.Tide.cell n1 hgn q
    have tn2 := fun q : Drift.Tide [g + 1 + 1 + 1, g + 1 + 1 + 1 + 1] w1 [] => Drift.Tide.cell n2 hgn q
    have tn3 := fun q : Drift.Tide [g + 1 + 1 + 1, g + 1 + 1 + 1 + 1] w1 [] => Drift.Tide.cell n3 hgn q
    have tn4 := fun q : Drift.Tide [g + 1 + 1 + 1, g + 1 + 1 + 1 + 1] w1 [] => Drift.Tide.cell n4 hgn q
    have hS : ∀ k, k ∈ [g + 1 + 1 + 1, g + 1 + 1 + 1 + 1] → k < w1.heap.size := fun k hk => by
      have h9 := HX5.out.size
      have : k = g + 1 + 1 + 1 ∨ k = g + 1 + 1 + 1 + 1 := by simpa using hk
      omega
    clear m0 m1 m2 m3 m4 n0 n1 n2 n3 n4 hgm hgn
    refine Drift.wp_region_drift [g + 1 + 1 + 1, g + 1 + 1 + 1 + 1] [(0,[]),(1,[]),(2,[]),(3,[]),(4,[])] [2, 3] [] (by kernel_rfl) (by kernel_rfl) hS ?_
    clear hS
    simp only [Drift.pick, Drift.opsAt, List.getElem?_toArray, List.getElem?_cons_zero, List.getElem?_cons_succ, List.cons_append, List.nil_append, List.filterMap_nil]
    repeat (refine Drift.walk_step (fun K hK => ?_); go_simp; (refine hK _ ?_; clear hK K))
    refine Drift.walk_event rfl Drift.mkwalk_nil (EvFill w1 (g + 1 + 1 + 1) #[.int .i64 lv, .slice kA kn kc, .slice pA pn pc, .slice bA bn bc, .slice qA qn qc]) (fun W2 hk _ => ?_) (fun v w20 hv hI _ hTd1 => ?_)
    · have hy := (HX5.out.kept hk).m
      obtain ⟨s0, s1, s2, s3, s4⟩ := box5 hy
      have y0 := free5 hy 0; have y1 := free5 hy 1; have y2 := free5 hy 2; have y3 := free5 hy 3; have y4 := free5 hy 4
      have hs5 := set5_at hy (.int .i64 lv) (.slice kA kn kc) (.slice pA pn pc) (.slice bA bn bc) (.slice qA qn qc)
      have hi5 := into_set5 W2 (g + 1 + 1 + 1) (.int .i64 lv) (.slice kA kn kc) (.slice pA pn pc) (.slice bA bn bc) (.slice qA qn qc)
      unfold set5 at hs5 hi5
      have HS5 := Lib.hid hs5
      have HI4 := Lib.hid hi5
      have HI5 : Hid (Flow.Into [g + 1 + 1 + 1] w1 _) := (Flow.Into.of_below hk).trans hi5
      clear hs5 hi5 hy
      go_simp
      exact ⟨⟨rfl, HS5.out, HI5.out⟩, into_wide HI4.out (by simp)⟩
    obtain ⟨rfl, hv1, hi1⟩ := hv
    have HZ : Hid (w20.heap[g + 1 + 1 + 1 + 1]? = some (.cells #[.int .i64 0, .slice none 0 0, .slice none 0 0, .slice none 0 0, .slice none 0 0] 29)) := (hi1.block (g + 1 + 1 + 1 + 1) HX5.out.size (by simp)).trans HX5.out.n
    clear hI
    refine Drift.walk_event rfl Drift.mkwalk_nil (EvFill w20 (g + 1 + 1 + 1 + 1) #[.int .i64 lv2, .slice kA2 kn2 kc2, .slice pA2 pn2 pc2, .slice bA2 bn2 bc2, .slice qA2 qn2 qc2]) (fun W2 hk _ => ?_) (fun v w21 hv hI _ hTd2 => ?_)
    · have hy := kept3 HZ.out hk
      obtain ⟨s0, s1, s2, s3, s4⟩ := box5 hy
      have y0 := free5 hy 0; have y1 := free5 hy 1; have y2 := free5 hy 2; have y3 := free5 hy 3; have y4 := free5 hy 4
      have hs5 := set5_at hy (.int .i64 lv2) (.slice kA2 kn2 kc2) (.slice pA2 pn2 pc2) (.slice bA2 bn2 bc2) (.slice qA2 qn2 qc2)
      have hi5 := into_set5 W2 (g + 1 + 1 + 1 + 1) (.int .i64 lv2) (.slice kA2 kn2 kc2) (.slice pA2 pn2 pc2) (.slice bA2 bn2 bc2) (.slice qA2 qn2 qc2)
      unfold set5 at hs5 hi5
      have HS5 := Lib.hid hs5
      have HI4 := Lib.hid hi5
      have HI5 : Hid (Flow.Into [g + 1 + 1 + 1 + 1] w20 _) := (Flow.Into.of_below hk).trans hi5
      clear hs5 hi5 hy
      go_simp
      exact ⟨⟨rfl, HS5.out, HI5.out⟩, into_wide HI4.out (by simp)⟩
    obtain ⟨rfl, hv2, hi2⟩ := hv
    clear hI HZ
    repeat (refine Drift.walk_step (fun K hK => ?_); go_simp; (refine hK _ ?_; clear hK K))
    refine Drift.walk_nil ?_
    intro w22 hb22 _
    have HI : Hid (Flow.Into [g + 1 + 1 + 1, g + 1 + 1 + 1 + 1] w1 w22) := ((into_wide hi1 (by simp)).trans (into_wide hi2 (by simp))).trans (Flow.Into.of_below hb22)
    have hy1 := (hi2.block (g + 1 + 1 + 1) (Array.getElem?_eq_some_iff.1 hv1).1 (by simp)).trans hv1
    obtain ⟨s0, s1, s2, s3, s4⟩ := box5 (kept3 hy1 hb22)
    obtain ⟨u0, u1, u2, u3, u4⟩ := box5 (kept3 hv2 hb22)
    have HBW : Hid (Below W.heap.size W w22) := below_fill HX5.out.b3.below HI.out (fun k hk => by
      have h9 := HX5.out.b3.at_
      have : k = g + 1 + 1 + 1 ∨ k = g + 1 + 1 + 1 + 1 := by simpa using hk
      omega) HX5.out.b3.below.size
    clear hTd1 hTd2 hv1 hv2 hi1 hi2 hy1 hb22 tm0 tm1 tm2 tm3 tm4 tn0 tn1 tn2 tn3 tn4
    simp only [List.length_cons, List.length_nil, List.drop_succ_cons, List.drop_nil, Nat.zero_add, Nat.reduceAdd]
    go_wp2_with fail
    exact bodyPost_ret (v := .tuple #[.agg #[.int .i64 lv, .slice kA kn kc, .slice pA pn pc, .slice bA bn bc, .slice qA qn qc], .agg #[.int .i64 lv2, .slice kA2 kn2 kc2, .slice pA2 pn2 pc2, .slice bA2 bn2 bc2, .slice qA2 qn2 qc2], .int .i64 0]) (by simp [results, Try.results8, go_sem, s0, s1, s2, s3, s4, u0, u1, u2, u3, u4]) rfl ⟨⟨_, rfl, HP.out HBW.out⟩, HBW.out⟩
  · clear hn hw
    go_upto_region 2 with fail
    clear d0 d1 d2 d3 d4 e0 e1 e2 e3 e4
    obtain ⟨m0, m1, m2, m3, m4⟩ := box5 HX5.out.b3.y
    obtain ⟨n0, n1, n2, n3, n4⟩ := box5 HX5.out.b3.z
    have hgm : g + 1 ∉ [g + 1 + 1 + 1, g + 1 + 1 + 1 + 1] := by simp
    have hgn : g + 1 + 1 ∉ [g + 1 + 1 + 1, g + 1 + 1 + 1 + 1] := by simp
    have tm0 := fun q : Drift.Tide [g + 1 + 1 + 1, g + 1 + 1 + 1 + 1] w1 [] => Drift.Tide.cell m0 hgm q
    have tm1 := fun q : Drift.Tide [g + 1 + 1 + 1, g + 1 + 1 + 1 + 1] w1 [] => Drift.Tide.cell m1 hgm q
    have tm2 := fun q : Drift.Tide [g + 1 + 1 + 1, g + 1 + 1 + 1 + 1] w1 [] => Drift.Tide.cell m2 hgm q
    have tm3 := fun q : Drift.Tide [g + 1 + 1 + 1, g + 1 + 1 + 1 + 1] w1 [] => Drift.Tide.cell m3 hgm q
    have tm4 := fun q : Drift.Tide [g + 1 + 1 + 1, g + 1 + 1 + 1 + 1] w1 [] => Drift.Tide.cell m4 hgm q
    have tn0 := fun q : Drift.Tide [g + 1 + 1 + 1, g + 1 + 1 + 1 + 1] w1 [] => Drift.Tide.cell n0 hgn q
    have tn1 := fun q : Drift.Tide [g + 1 + 1 + 1, g + 1 + 1 + 1 + 1] w1 [] => Drift.Tide.cell n1 hgn q
    have tn2 := fun q : Drift.Tide [g + 1 + 1 + 1, g + 1 + 1 + 1 + 1] w1 [] => Drift.Tide.cell n2 hgn q
    have tn3 := fun q : Drift.Tide [g + 1 + 1 + 1, g + 1 + 1 + 1 + 1] w1 [] => Drift.Tide.cell n3 hgn q
    have tn4 := fun q : Drift.Tide [g + 1 + 1 + 1, g + 1 + 1 + 1 + 1] w1 [] => Drift.Tide.cell n4 hgn q
    have hS : ∀ k, k ∈ [g + 1 + 1 + 1, g + 1 + 1 + 1 + 1] → k < w1.heap.size := fun k hk => by
      have h9 := HX5.out.size
      have : k = g + 1 + 1 + 1 ∨ k = g + 1 + 1 + 1 + 1 := by simpa using hk
      omega
    clear m0 m1 m2 m3 m4 n0 n1 n2 n3 n4 hgm hgn
    refine Drift.wp_region_drift [g + 1 + 1 + 1, g + 1 + 1 + 1 + 1] [(0,[]),(1,[]),(2,[]),(3,[]),(4,[])] [2, 3] [] (by kernel_rfl) (by kernel_rfl) hS ?_
    clear hS
    simp only [Drift.pick, Drift.opsAt, List.getElem?_toArray, List.getElem?_cons_zero, List.getElem?_cons_succ, List.cons_append, List.nil_append, List.filterMap_nil]
    repeat (refine Drift.walk_step (fun K hK => ?_); go_simp; (refine hK _ ?_; clear hK K))
    refine Drift.walk_event rfl Drift.mkwalk_nil (EvFill w1 (g + 1 + 1 + 1) #[.int .i64 lv, .slice kA kn kc, .slice pA pn pc, .slice bA bn bc, .slice qA qn qc]) (fun W2 hk _ => ?_) (fun v w20 hv hI _ hTd1 => ?_)
    · have hy := (HX5.out.kept hk).m
      obtain ⟨s0, s1, s2, s3, s4⟩ := box5 hy
      have y0 := free5 hy 0; have y1 := free5 hy 1; have y2 := free5 hy 2; have y3 := free5 hy 3; have y4 := free5 hy 4
      have hs5 := set5_at hy (.int .i64 lv) (.slice kA kn kc) (.slice pA pn pc) (.slice bA bn bc) (.slice qA qn qc)
      have hi5 := into_set5 W2 (g + 1 + 1 + 1) (.int .i64 lv) (.slice kA kn kc) (.slice pA pn pc) (.slice bA bn bc) (.slice qA qn qc)
      unfold set5 at hs5 hi5
      have HS5 := Lib.hid hs5
      have HI4 := Lib.hid hi5
      have HI5 : Hid (Flow.Into [g + 1 + 1 + 1] w1 _) := (Flow.Into.of_below hk).trans hi5
      clear hs5 hi5 hy
      go_simp
      exact ⟨⟨rfl, HS5.out, HI5.out⟩, into_wide HI4.out (by simp)⟩
    obtain ⟨rfl, hv1, hi1⟩ := hv
    have HZ : Hid (w20.heap[g + 1 + 1 + 1 + 1]? = some (.cells #[.int .i64 0, .slice none 0 0, .slice none 0 0, .slice none 0 0, .slice none 0 0] 29)) := (hi1.block (g + 1 + 1 + 1 + 1) HX5.out.size (by simp)).trans HX5.out.n
    clear hI
    refine Drift.walk_event rfl Drift.mkwalk_nil (EvFill w20 (g + 1 + 1 + 1 + 1) #[.int .i64 lv2, .slice kA2 kn2 kc2, .slice pA2 pn2 pc2, .slice bA2 bn2 bc2, .slice qA2 qn2 qc2]) (fun W2 hk _ => ?_) (fun v w21 hv hI _ hTd2 => ?_)
    · have hy := kept3 HZ.out hk
      obtain ⟨s0, s1, s2, s3, s4⟩ := box5 hy
      have y0 := free5 hy 0; have y1 := free5 hy 1; have y2 := free5 hy 2; have y3 := free5 hy 3; have y4 := free5 hy 4
      have hs5 := set5_at hy (.int .i64 lv2) (.slice kA2 kn2 kc2) (.slice pA2 pn2 pc2) (.slice bA2 bn2 bc2) (.slice qA2 qn2 qc2)
      have hi5 := into_set5 W2 (g + 1 + 1 + 1 + 1) (.int .i64 lv2) (.slice kA2 kn2 kc2) (.slice pA2 pn2 pc2) (.slice bA2 bn2 bc2) (.slice qA2 qn2 qc2)
      unfold set5 at hs5 hi5
      have HS5 := Lib.hid hs5
      have HI4 := Lib.hid hi5
      have HI5 : Hid (Flow.Into [g + 1 + 1 + 1 + 1] w20 _) := (Flow.Into.of_below hk).trans hi5
      clear hs5 hi5 hy
      go_simp
      exact ⟨⟨rfl, HS5.out, HI5.out⟩, into_wide HI4.out (by simp)⟩
    obtain ⟨rfl, hv2, hi2⟩ := hv
    clear hI HZ
    repeat (refine Drift.walk_step (fun K hK => ?_); go_simp; (refine hK _ ?_; clear hK K))
    refine Drift.walk_nil ?_
    intro w22 hb22 _
    have HI : Hid (Flow.Into [g + 1 + 1 + 1, g + 1 + 1 + 1 + 1] w1 w22) := ((into_wide hi1 (by simp)).trans (into_wide hi2 (by simp))).trans (Flow.Into.of_below hb22)
    have hy1 := (hi2.block (g + 1 + 1 + 1) (Array.getElem?_eq_some_iff.1 hv1).1 (by simp)).trans hv1
    obtain ⟨s0, s1, s2, s3, s4⟩ := box5 (kept3 hy1 hb22)
    obtain ⟨u0, u1, u2, u3, u4⟩ := box5 (kept3 hv2 hb22)
    have HBW : Hid (Below W.heap.size W w22) := below_fill HX5.out.b3.below HI.out (fun k hk => by
      have h9 := HX5.out.b3.at_
      have : k = g + 1 + 1 + 1 ∨ k = g + 1 + 1 + 1 + 1 := by simpa using hk
      omega) HX5.out.b3.below.size
    clear hTd1 hTd2 hv1 hv2 hi1 hi2 hy1 hb22 tm0 tm1 tm2 tm3 tm4 tn0 tn1 tn2 tn3 tn4
    simp only [List.length_cons, List.length_nil, List.drop_succ_cons, List.drop_nil, Nat.zero_add, Nat.reduceAdd]
    go_wp2_with fail
    exact bodyPost_ret (v := .tuple #[.agg #[.int .i64 lv, .slice kA kn kc, .slice pA pn pc, .slice bA bn bc, .slice qA qn qc], .agg #[.int .i64 lv2, .slice kA2 kn2 kc2, .slice pA2 pn2 pc2, .slice bA2 bn2 bc2, .slice qA2 qn2 qc2], .int .i64 0]) (by simp [results, Try.results8, go_sem, s0, s1, s2, s3, s4, u0, u1, u2, u3, u4]) rfl ⟨⟨_, rfl, HP.out HBW.out⟩, HBW.out⟩
end No
end Go.Proofs.Ytlabbmfiecbigaa
