/-
  CleaveR1. Put together by pack.py.
-/
import Derived.Test.YtohnllclkpflaaaPqCleaveC2
import Derived.Test.YtohnllclkpflaaaPkAJ

namespace Go.Proofs.Ytohnllclkpflaaa
open Go.RowKit
namespace No
open Mem Lx Bu Lf Fa
/-- four boxes -/
structure B4 (W : World) (g : Nat) (X Y Z : Obj) (gn : Nat) (N : Obj) (w : World) : Prop where
  b3 : B3 W g X Y Z w
  n : w.heap[gn]? = some N
  lt : g + 1 + 1 < gn
section
variable {W w w' : World} {g gn : Nat} {X Y Z N : Obj} {u0 u1 u2 u3 u4 : Value} {U : TypeId}
theorem B4.kept (h : B4 W g X Y Z gn N w) (hb : Below w.heap.size w w') : B4 W g X Y Z gn N w' := ⟨h.b3.kept hb, kept3 h.n hb, h.lt⟩
theorem B4.grow {b : Nat} (h : B4 W g X Y Z gn N w) (hb : Below b w w') (hg : gn < b) : B4 W g X Y Z gn N w' := by
  have hl := h.lt
  have h0 := h.b3.at_
  exact ⟨⟨h.b3.below.trans (hb.mono (by omega)), h0, (hb.block g (by omega)).trans h.b3.x, (hb.block (g + 1) (by omega)).trans h.b3.y, (hb.block (g + 1 + 1) (by omega)).trans h.b3.z⟩, (hb.block gn hg).trans h.n, h.lt⟩
theorem B4.size (h : B4 W g X Y Z gn N w) : gn < w.heap.size := (Array.getElem?_eq_some_iff.1 h.n).1
theorem B4.away (h : B4 W g X Y Z gn N w) {i : Nat} (v : Value) (N' : Obj) (hn : (w.setCell ⟨gn, i, none⟩ v).heap[gn]? = some N') : B4 W g X Y Z gn N' (w.setCell ⟨gn, i, none⟩ v) := by
  have hl := h.lt
  have h0 := h.b3.at_
  exact ⟨⟨h.b3.below.setCell (show W.heap.size ≤ gn by omega) _, h0, (set_other _ (show g ≠ gn by omega)).trans h.b3.x, (set_other _ (show g + 1 ≠ gn by omega)).trans h.b3.y, (set_other _ (show g + 1 + 1 ≠ gn by omega)).trans h.b3.z⟩, hn, h.lt⟩
theorem B4.set1 (h : B4 W g X Y Z gn (.cells #[u0, u1, u2, u3, u4] U (0, 0)) w) (v : Value) : B4 W g X Y Z gn (.cells #[u0, v, u2, u3, u4] U (0, 0)) (w.setCell ⟨gn, 1, none⟩ v) := h.away v _ (by simp [World.setCell, Array.getElem?_modify, h.n])
theorem B4.set2 (h : B4 W g X Y Z gn (.cells #[u0, u1, u2, u3, u4] U (0, 0)) w) (v : Value) : B4 W g X Y Z gn (.cells #[u0, u1, v, u3, u4] U (0, 0)) (w.setCell ⟨gn, 2, none⟩ v) := h.away v _ (by simp [World.setCell, Array.getElem?_modify, h.n])
theorem B4.set3 (h : B4 W g X Y Z gn (.cells #[u0, u1, u2, u3, u4] U (0, 0)) w) (v : Value) : B4 W g X Y Z gn (.cells #[u0, u1, u2, v, u4] U (0, 0)) (w.setCell ⟨gn, 3, none⟩ v) := h.away v _ (by simp [World.setCell, Array.getElem?_modify, h.n])
theorem B4.set4 (h : B4 W g X Y Z gn (.cells #[u0, u1, u2, u3, u4] U (0, 0)) w) (v : Value) : B4 W g X Y Z gn (.cells #[u0, u1, u2, u3, v] U (0, 0)) (w.setCell ⟨gn, 4, none⟩ v) := h.away v _ (by simp [World.setCell, Array.getElem?_modify, h.n])
end
theorem vk_below {α : Type} {K : Kind α} {w w' : World} {B b c : Nat} {A : Option Addr} {L : List α} (h : VK K w B A c L) (hb : Below b w w') (hlt : ∀ x, A = some x → x.block < b) : VK K w' B A c L := h.keep fun a ha => hb.block _ (hlt a ha)
theorem vkset {α : Type} {K : Kind α} {w : World} {B c b i : Nat} {A : Option Addr} {L : List α} (h : VK K w B A c L) (v : Value) (hb : b < B) : VK K (w.setCell ⟨b, i, none⟩ v) B A c L := h.into (into_one w b i v) fun a ha hm => by
  have h1 := (h.at_ a ha).1
  obtain rfl : a.block = b := by simpa using hm
  omega
set_option maxRecDepth 100000 in
set_option maxHeartbeats 8000000 in
theorem RJoin_no {W : World} {a b : Nd} {x y : At} (p : ByteArray) (hl : a.lv ≠ b.lv) : Calls Try.prog 9 #[.agg (ndCs a x), .string p, .agg (ndCs b y)] W fun e w' => (∃ v, e = .returned v ∧ EvJoin (joinN a p b) v w') ∧ Below W.heap.size W w' := by
  have HJ : Hid (joinN a p b = (zeroN, false)) := if_pos hl
  generalize joinN a p b = J at *
  obtain ⟨lv, K, P, B, Q⟩ := a
  obtain ⟨lv', K', P', B', Q'⟩ := b
  obtain ⟨kA, kc, pA, pc, bA, bc, qA, qc⟩ := x
  obtain ⟨kA', kc', pA', pc', bA', bc', qA', qc'⟩ := y
  unfold ndCs
  simp only at *
  have hd : (lv != lv') = true := by simpa using hl
  generalize K.length = kn at *
  generalize P.length = pn at *
  generalize B.length = bn at *
  generalize Q.length = qn at *
  generalize K'.length = kn' at *
  generalize P'.length = pn' at *
  generalize B'.length = bn' at *
  generalize Q'.length = qn' at *
  clear hl
  go_enter Try.func9, Try.ntmps9
  go_upto_region 1 with fail
  have HB := Lib.hid (B3.new W (.cells #[.int .i64 lv, .slice kA kn kc, .slice pA pn pc, .slice bA bn bc, .slice qA qn qc] 31) (.cells #[.int .i64 lv', .slice kA' kn' kc', .slice pA' pn' pc', .slice bA' bn' bc', .slice qA' qn' qc'] 31) (.cells #[.int .i64 0, .slice none 0 0, .slice none 0 0, .slice none 0 0, .slice none 0 0] 31))
  generalize ((W.alloc (.cells #[.int .i64 lv, .slice kA kn kc, .slice pA pn pc, .slice bA bn bc, .slice qA qn qc] 31)).alloc (.cells #[.int .i64 lv', .slice kA' kn' kc', .slice pA' pn' pc', .slice bA' bn' bc', .slice qA' qn' qc'] 31)).alloc (.cells #[.int .i64 0, .slice none 0 0, .slice none 0 0, .slice none 0 0, .slice none 0 0] 31) = w1 at *
  obtain ⟨g, hg⟩ : ∃ g, g = W.heap.size := ⟨_, rfl⟩
  rw [← hg] at HB
  simp only [← hg]
  clear hg
  obtain ⟨d0, d1, d2, d3, d4⟩ := box5 HB.out.x
  obtain ⟨e0, e1, e2, e3, e4⟩ := box5 HB.out.y
  obtain ⟨u0, u1, u2, u3, u4⟩ := box5 HB.out.z
  have f0 := free5 HB.out.z 0; have f1 := free5 HB.out.z 1; have f2 := free5 HB.out.z 2; have f3 := free5 HB.out.z 3; have f4 := free5 HB.out.z 4
  go_wp2_with fail
  clear u0 u1 u2 u3 u4 f0 f1 f2 f3 f4
  have HU := Lib.hid (set5_at HB.out.z (.int .i64 0) (.slice none 0 0) (.slice none 0 0) (.slice none 0 0) (.slice none 0 0))
  have HBW := Lib.hid (set5_below HB.out.below (show W.heap.size ≤ g + 1 + 1 from Nat.le_trans HB.out.at_ (by omega)) (.int .i64 0) (.slice none 0 0) (.slice none 0 0) (.slice none 0 0) (.slice none 0 0))
  unfold set5 at HU HBW
  generalize ((((w1.setCell ⟨g + 1 + 1, 0, none⟩ (.int .i64 0)).setCell ⟨g + 1 + 1, 1, none⟩ (.slice none 0 0)).setCell ⟨g + 1 + 1, 2, none⟩ (.slice none 0 0)).setCell ⟨g + 1 + 1, 3, none⟩ (.slice none 0 0)).setCell ⟨g + 1 + 1, 4, none⟩ (.slice none 0 0) = w9 at *
  obtain ⟨u0, u1, u2, u3, u4⟩ := box5 HU.out
  refine bodyPost_ret (v := .tuple #[.agg #[.int .i64 0, .slice none 0 0, .slice none 0 0, .slice none 0 0, .slice none 0 0], .bool false]) (by simp [results, Try.results9, go_sem, u0, u1, u2, u3, u4]) rfl ⟨⟨_, rfl, ?_⟩, HBW.out⟩
  rw [HJ.out]
  exact ⟨_, rfl, NdIn.zero _⟩
set_option maxRecDepth 100000 in
set_option maxHeartbeats 16000000 in
theorem RJoin_yes {W : World} {a b : Nd} {x y : At} (p : ByteArray) (ha : NdIn W a x) (hb : NdIn W b y) (fa : Fit a) (fb : Fit b) (hl : a.lv = b.lv) : Calls Try.prog 9 #[.agg (ndCs a x), .string p, .agg (ndCs b y)] W fun e w' => (∃ v, e = .returned v ∧ EvJoin (joinN a p b) v w') ∧ Below W.heap.size W w' := by
  have k1 := fa.kids
  have k2 := fa.piv
  have k3 := fa.buf
  have k4 := fa.prs
  have l1 := fb.kids
  have l2 := fb.piv
  have l3 := fb.buf
  have l4 := fb.prs
  have HA := Lib.hid ha
  have HA' := Lib.hid hb
  clear fa fb ha hb
  obtain ⟨lv, K, P, B, Q⟩ := a
  obtain ⟨lv', K', P', B', Q'⟩ := b
  simp only at hl
  subst hl
  obtain ⟨kA, kc, pA, pc, bA, bc, qA, qc⟩ := x
  obtain ⟨kA', kc', pA', pc', bA', bc', qA', qc'⟩ := y
  have HJ : Hid (joinN ⟨lv, K, P, B, Q⟩ p ⟨lv, K', P', B', Q'⟩ = (⟨lv, K ++ K', if 0 < lv then P ++ [p] ++ P' else [], B ++ B', Q ++ Q'⟩, true)) := if_neg (by simp)
  generalize joinN ⟨lv, K, P, B, Q⟩ p ⟨lv, K', P', B', Q'⟩ = J at *
  unfold ndCs
  simp only at *
  generalize hkn : K.length = kn at *
  have HKN := Lib.hid hkn
  generalize hkn' : K'.length = kn' at *
  have HKN' := Lib.hid hkn'
  generalize hpn : P.length = pn at *
  have HPN := Lib.hid hpn
  generalize hpn' : P'.length = pn' at *
  have HPN' := Lib.hid hpn'
  generalize hbn : B.length = bn at *
  have HBN := Lib.hid hbn
  generalize hbn' : B'.length = bn' at *
  have HBN' := Lib.hid hbn'
  generalize hqn : Q.length = qn at *
  have HQN := Lib.hid hqn
  generalize hqn' : Q'.length = qn' at *
  have HQN' := Lib.hid hqn'
  have HSZ := Lib.hid (⟨by omega, by omega, by omega, by omega⟩ : kn + kn' ≤ 1048576 ∧ pn + 1 + pn' ≤ 1048576 ∧ bn + bn' ≤ 1048576 ∧ qn + qn' ≤ 1048576)
  have HSY := Lib.hid (⟨by omega, by omega, by omega, by omega⟩ : kn ≤ 1048576 ∧ pn + 1 ≤ 1048576 ∧ bn ≤ 1048576 ∧ qn ≤ 1048576)
  clear k1 k2 k3 k4 l1 l2 l3 l4 hkn hkn' hpn hpn' hbn hbn' hqn hqn'
  go_enter Try.func9, Try.ntmps9
  go_upto_region 1 with fail
  have HB := Lib.hid (B3.new W (.cells #[.int .i64 lv, .slice kA kn kc, .slice pA pn pc, .slice bA bn bc, .slice qA qn qc] 31) (.cells #[.int .i64 lv, .slice kA' kn' kc', .slice pA' pn' pc', .slice bA' bn' bc', .slice qA' qn' qc'] 31) (.cells #[.int .i64 0, .slice none 0 0, .slice none 0 0, .slice none 0 0, .slice none 0 0] 31))
  generalize ((W.alloc (.cells #[.int .i64 lv, .slice kA kn kc, .slice pA pn pc, .slice bA bn bc, .slice qA qn qc] 31)).alloc (.cells #[.int .i64 lv, .slice kA' kn' kc', .slice pA' pn' pc', .slice bA' bn' bc', .slice qA' qn' qc'] 31)).alloc (.cells #[.int .i64 0, .slice none 0 0, .slice none 0 0, .slice none 0 0, .slice none 0 0] 31) = w1 at *
  obtain ⟨g, hg⟩ : ∃ g, g = W.heap.size := ⟨_, rfl⟩
  rw [← hg] at HB
  simp only [← hg]
  clear hg
  obtain ⟨d0, d1, d2, d3, d4⟩ := box5 HB.out.x
  obtain ⟨e0, e1, e2, e3, e4⟩ := box5 HB.out.y
  go_upto_region 4 with fail
  obtain ⟨gn, hgn⟩ : ∃ gn, gn = w1.heap.size := ⟨_, rfl⟩
  have hbn : Below w1.heap.size w1 (w1.alloc (.cells #[.int .i64 lv, .slice none 0 0, .slice none 0 0, .slice none 0 0, .slice none 0 0] 31)) := (Below.refl _ _).alloc (Nat.le_refl _) _
  have HB4 : Hid (B4 W g (.cells #[.int .i64 lv, .slice kA kn kc, .slice pA pn pc, .slice bA bn bc, .slice qA qn qc] 31) (.cells #[.int .i64 lv, .slice kA' kn' kc', .slice pA' pn' pc', .slice bA' bn' bc', .slice qA' qn' qc'] 31) (.cells #[.int .i64 0, .slice none 0 0, .slice none 0 0, .slice none 0 0, .slice none 0 0] 31) gn (.cells #[.int .i64 lv, .slice none 0 0, .slice none 0 0, .slice none 0 0, .slice none 0 0] 31) (w1.alloc (.cells #[.int .i64 lv, .slice none 0 0, .slice none 0 0, .slice none 0 0, .slice none 0 0] 31))) := by
    subst hgn
    exact ⟨HB.out.kept hbn, heap_alloc_new _ _, HB.out.lt⟩
  simp only [← hgn]
  clear hgn hbn HB d0 d1 d2 d3 d4 e0 e1 e2 e3 e4
  generalize w1.alloc (.cells #[.int .i64 lv, .slice none 0 0, .slice none 0 0, .slice none 0 0, .slice none 0 0] 31) = w2 at *
  have HB := HB4
  clear HB4
  obtain ⟨d0, d1, d2, d3, d4⟩ := box5 HB.out.b3.x
  obtain ⟨e0, e1, e2, e3, e4⟩ := box5 HB.out.b3.y
  obtain ⟨u0, u1, u2, u3, u4⟩ := box5 HB.out.n
  have zd := fun q : Drift.Tide [] w2 [] => Drift.Tide.cell d1 (by simp) q
  have ze := fun q : Drift.Tide [] w2 [] => Drift.Tide.cell e1 (by simp) q
  have zu := fun q : Drift.Tide [] w2 [] => Drift.Tide.cell u1 (by simp) q
  clear d0 d1 d2 d3 d4 e0 e1 e2 e3 e4 u0 u1 u2 u3 u4
  have HNA := Lib.hid (HA.out.kept HB.out.b3.below)
  have HNB := Lib.hid (HA'.out.kept HB.out.b3.below)
  refine Drift.wp_region_drift [] [(0,[]),(1,[]),(2,[]),(3,[]),(5,[]),(6,[]),(4,[])] [4] [] (by kernel_rfl) (by kernel_rfl) (by simp) ?_
  simp only [Drift.pick, Drift.opsAt, List.getElem?_toArray, List.getElem?_cons_zero, List.getElem?_cons_succ, List.cons_append, List.nil_append, List.filterMap_nil]
  repeat (refine Drift.walk_step (fun K hK => ?_); go_simp; (refine hK _ ?_; clear hK K))
  refine Drift.walk_event rfl Drift.mkwalk_nil (EvRK KdK w2.heap.size kn K) (fun W2 hk _ => ?_) (fun v w3 hv hI _ hTd => ?_)
  · exact evAt_append_nilK (K := KdK) Try.underlying26 slinfoK rfl (by decide) (by decide) (.tmp 19) (.tmp 21) rfl w2.heap.size rfl kA kn kc K rfl HKN.out (HNA.out.kept hk).kids.1 HSY.out.1 hk.size (fun A' c' w' hv hb => ⟨A', c', rfl, hv⟩)
  obtain ⟨Rk, ck, rfl, hv⟩ := hv
  have HBa : Hid (Below w2.heap.size w2 w3) := hI.below
  have HVa := Lib.hid hv
  clear hv hI
  refine Drift.walk_nil ?_
  intro w4 hb _
  have HVb := Lib.hid (HVa.out.kept hb)
  have HBb : Hid (Below w2.heap.size w2 w4) := HBa.out.trans (hb.mono HBa.out.size)
  clear hb HVa HBa zd ze zu hTd
  simp only [List.length_cons, List.length_nil, List.drop_succ_cons, List.drop_zero, Nat.zero_add, Nat.reduceAdd]
  have HRd : Hid (RdK KdK w4 kA' K') := ((HNB.out.kept HBb.out).kids.1)
  have hsz := HBb.out.size
  have hn2 := HSZ.out.1
  refine wpList_append_allK (K := KdK) Try.underlying26 slinfoK rfl (by decide) (by decide) rfl (.tmp 22) (.tmp 24) rfl w2.heap.size Rk kn ck K rfl HKN.out HVb.out kA' kn' kc' K' rfl HKN'.out HRd.out hn2 hsz ?_
  intro Sk sk w5 hv4 hb4
  have HBc : Hid (Below w2.heap.size w2 w5) := HBb.out.trans hb4.out
  have HGN := Lib.hid HB.out.size
  replace HB := Lib.hid (HB.out.kept HBc.out)
  obtain ⟨u0, u1, u2, u3, u4⟩ := box5 HB.out.n
  have fr := free5 HB.out.n 1
  go_upto_region 5 with fail
  clear u0 u1 u2 u3 u4 fr hsz hn2 HNA HNB HVb HBb HRd
  replace HB := Lib.hid (HB.out.set1 (.slice Sk (kn + kn') sk))
  have HRk : Hid (VK KdK (w5.setCell ⟨gn, 1, none⟩ (.slice Sk (kn + kn') sk)) (gn + 1) Sk sk (K ++ K')) := vkset (hv4.out.mono HGN.out) _ (Nat.lt_succ_self _)
  clear hv4 hb4 HBc HGN
  generalize w5.setCell ⟨gn, 1, none⟩ (.slice Sk (kn + kn') sk) = w6 at *

  obtain ⟨d0, d1, d2, d3, d4⟩ := box5 HB.out.b3.x
  obtain ⟨e0, e1, e2, e3, e4⟩ := box5 HB.out.b3.y
  obtain ⟨u0, u1, u2, u3, u4⟩ := box5 HB.out.n
  have zd := fun q : Drift.Tide [] w6 [] => Drift.Tide.cell d3 (by simp) q
  have ze := fun q : Drift.Tide [] w6 [] => Drift.Tide.cell e3 (by simp) q
  have zu := fun q : Drift.Tide [] w6 [] => Drift.Tide.cell u3 (by simp) q
  clear d0 d1 d2 d3 d4 e0 e1 e2 e3 e4 u0 u1 u2 u3 u4
  have HNA := Lib.hid (HA.out.kept HB.out.b3.below)
  have HNB := Lib.hid (HA'.out.kept HB.out.b3.below)
  refine Drift.wp_region_drift [] [(0,[]),(1,[]),(2,[]),(3,[]),(5,[]),(6,[]),(4,[])] [4] [] (by kernel_rfl) (by kernel_rfl) (by simp) ?_
  simp only [Drift.pick, Drift.opsAt, List.getElem?_toArray, List.getElem?_cons_zero, List.getElem?_cons_succ, List.cons_append, List.nil_append, List.filterMap_nil]
  repeat (refine Drift.walk_step (fun K hK => ?_); go_simp; (refine hK _ ?_; clear hK K))
  refine Drift.walk_event rfl Drift.mkwalk_nil (EvRK MgK w6.heap.size bn B) (fun W2 hk _ => ?_) (fun v w7 hv hI _ hTd => ?_)
  · exact evAt_append_nilK (K := MgK) Try.underlying28 mginfo rfl (by decide) (by decide) (.tmp 28) (.tmp 30) rfl w6.heap.size rfl bA bn bc B rfl HBN.out (HNA.out.kept hk).buf.1 HSY.out.2.2.1 hk.size (fun A' c' w' hv hb => ⟨A', c', rfl, hv⟩)
  obtain ⟨Rb, cb, rfl, hv⟩ := hv
  have HBa : Hid (Below w6.heap.size w6 w7) := hI.below
  have HVa := Lib.hid hv
  clear hv hI
  refine Drift.walk_nil ?_
  intro w8 hb _
  have HVb := Lib.hid (HVa.out.kept hb)
  have HBb : Hid (Below w6.heap.size w6 w8) := HBa.out.trans (hb.mono HBa.out.size)
  clear hb HVa HBa zd ze zu hTd
  simp only [List.length_cons, List.length_nil, List.drop_succ_cons, List.drop_zero, Nat.zero_add, Nat.reduceAdd]
  have HRd : Hid (RdK MgK w8 bA' B') := ((HNB.out.kept HBb.out).buf.1)
  have hsz := HBb.out.size
  have hn2 := HSZ.out.2.2.1
  refine wpList_append_allK (K := MgK) Try.underlying28 mginfo rfl (by decide) (by decide) rfl (.tmp 31) (.tmp 33) rfl w6.heap.size Rb bn cb B rfl HBN.out HVb.out bA' bn' bc' B' rfl HBN'.out HRd.out hn2 hsz ?_
  intro Sb sb w9 hv4 hb4
  have HBc : Hid (Below w6.heap.size w6 w9) := HBb.out.trans hb4.out
  have HGN := Lib.hid HB.out.size
  replace HB := Lib.hid (HB.out.kept HBc.out)
  obtain ⟨u0, u1, u2, u3, u4⟩ := box5 HB.out.n
  have fr := free5 HB.out.n 3
  go_upto_region 6 with fail
  clear u0 u1 u2 u3 u4 fr hsz hn2 HNA HNB HVb HBb HRd
  replace HB := Lib.hid (HB.out.set3 (.slice Sb (bn + bn') sb))
  have HRb : Hid (VK MgK (w9.setCell ⟨gn, 3, none⟩ (.slice Sb (bn + bn') sb)) (gn + 1) Sb sb (B ++ B')) := vkset (hv4.out.mono HGN.out) _ (Nat.lt_succ_self _)
  replace HRk := Lib.hid (vkset (i := 3) (HRk.out.kept HBc.out) (.slice Sb (bn + bn') sb) (Nat.lt_succ_self _))
  clear hv4 hb4 HBc HGN
  generalize w9.setCell ⟨gn, 3, none⟩ (.slice Sb (bn + bn') sb) = w10 at *

  obtain ⟨d0, d1, d2, d3, d4⟩ := box5 HB.out.b3.x
  obtain ⟨e0, e1, e2, e3, e4⟩ := box5 HB.out.b3.y
  obtain ⟨u0, u1, u2, u3, u4⟩ := box5 HB.out.n
  have zd := fun q : Drift.Tide [] w10 [] => Drift.Tide.cell d4 (by simp) q
  have ze := fun q : Drift.Tide [] w10 [] => Drift.Tide.cell e4 (by simp) q
  have zu := fun q : Drift.Tide [] w10 [] => Drift.Tide.cell u4 (by simp) q
  clear d0 d1 d2 d3 d4 e0 e1 e2 e3 e4 u0 u1 u2 u3 u4
  have HNA := Lib.hid (HA.out.kept HB.out.b3.below)
  have HNB := Lib.hid (HA'.out.kept HB.out.b3.below)
  refine Drift.wp_region_drift [] [(0,[]),(1,[]),(2,[]),(3,[]),(5,[]),(6,[]),(4,[])] [4] [] (by kernel_rfl) (by kernel_rfl) (by simp) ?_
  simp only [Drift.pick, Drift.opsAt, List.getElem?_toArray, List.getElem?_cons_zero, List.getElem?_cons_succ, List.cons_append, List.nil_append, List.filterMap_nil]
  repeat (refine Drift.walk_step (fun K hK => ?_); go_simp; (refine hK _ ?_; clear hK K))
  refine Drift.walk_event rfl Drift.mkwalk_nil (EvRK PrK w10.heap.size qn Q) (fun W2 hk _ => ?_) (fun v w11 hv hI _ hTd => ?_)
  · exact evAt_append_nilK (K := PrK) Try.underlying29 prinfo rfl (by decide) (by decide) (.tmp 37) (.tmp 39) rfl w10.heap.size rfl qA qn qc Q rfl HQN.out (HNA.out.kept hk).prs.1 HSY.out.2.2.2 hk.size (fun A' c' w' hv hb => ⟨A', c', rfl, hv⟩)
  obtain ⟨Rq, cq, rfl, hv⟩ := hv
  have HBa : Hid (Below w10.heap.size w10 w11) := hI.below
  have HVa := Lib.hid hv
  clear hv hI
  refine Drift.walk_nil ?_
  intro w12 hb _
  have HVb := Lib.hid (HVa.out.kept hb)
  have HBb : Hid (Below w10.heap.size w10 w12) := HBa.out.trans (hb.mono HBa.out.size)
  clear hb HVa HBa zd ze zu hTd
  simp only [List.length_cons, List.length_nil, List.drop_succ_cons, List.drop_zero, Nat.zero_add, Nat.reduceAdd]
  have HRd : Hid (RdK PrK w12 qA' Q') := ((HNB.out.kept HBb.out).prs.1)
  have hsz := HBb.out.size
  have hn2 := HSZ.out.2.2.2
  refine wpList_append_allK (K := PrK) Try.underlying29 prinfo rfl (by decide) (by decide) rfl (.tmp 40) (.tmp 42) rfl w10.heap.size Rq qn cq Q rfl HQN.out HVb.out qA' qn' qc' Q' rfl HQN'.out HRd.out hn2 hsz ?_
  intro Sq sq w13 hv4 hb4
  have HBc : Hid (Below w10.heap.size w10 w13) := HBb.out.trans hb4.out
  have HGN := Lib.hid HB.out.size
  replace HB := Lib.hid (HB.out.kept HBc.out)
  obtain ⟨u0, u1, u2, u3, u4⟩ := box5 HB.out.n
  have fr := free5 HB.out.n 4
  go_upto_region 7 with fail
  clear u0 u1 u2 u3 u4 fr hsz hn2 HNA HNB HVb HBb HRd
  replace HB := Lib.hid (HB.out.set4 (.slice Sq (qn + qn') sq))
  have HRq : Hid (VK PrK (w13.setCell ⟨gn, 4, none⟩ (.slice Sq (qn + qn') sq)) (gn + 1) Sq sq (Q ++ Q')) := vkset (hv4.out.mono HGN.out) _ (Nat.lt_succ_self _)
  replace HRk := Lib.hid (vkset (i := 4) (HRk.out.kept HBc.out) (.slice Sq (qn + qn') sq) (Nat.lt_succ_self _))
  replace HRb := Lib.hid (vkset (i := 4) (HRb.out.kept HBc.out) (.slice Sq (qn + qn') sq) (Nat.lt_succ_self _))
  clear hv4 hb4 HBc HGN
  generalize w13.setCell ⟨gn, 4, none⟩ (.slice Sq (qn + qn') sq) = w14 at *

  obtain ⟨d0, d1, d2, d3, d4⟩ := box5 HB.out.b3.x
  obtain ⟨e0, e1, e2, e3, e4⟩ := box5 HB.out.b3.y
  obtain ⟨u0, u1, u2, u3, u4⟩ := box5 HB.out.n
  obtain ⟨t0, t1, t2, t3, t4⟩ := box5 HB.out.b3.z
  have f0 := free5 HB.out.b3.z 0; have f1 := free5 HB.out.b3.z 1; have f2 := free5 HB.out.b3.z 2; have f3 := free5 HB.out.b3.z 3; have f4 := free5 HB.out.b3.z 4
  by_cases h0 : 0 < lv
  · have HPI : Hid ((if 0 < lv then P ++ [p] ++ P' else []) = P ++ [p] ++ P') := if_pos h0
    obtain ⟨XP, hXP⟩ : ∃ X, X = P ++ [p] ++ P' := ⟨_, rfl⟩
    replace HPI := Lib.hid (HPI.out.trans hXP.symm)
    have HXP : Hid (P ++ [p] ++ P' = XP) := hXP.symm
    obtain ⟨mp, hmp⟩ : ∃ m, m = pn + 1 + pn' := ⟨_, rfl⟩
    have HMP : Hid (XP.length = mp) := by unfold Hid; rw [hXP, List.length_append, List.length_append, hmp, HPN.out, HPN'.out]; rfl
    have HMP2 := Lib.hid hmp
    clear hXP hmp
    have HNA := Lib.hid (HA.out.kept HB.out.b3.below)
    have HNB := Lib.hid (HA'.out.kept HB.out.b3.below)
    have hn1 : 0 + pn ≤ 1048576 := by have := HSY.out.2.1; omega
    have hn2 : pn + 1 ≤ 1048576 := HSY.out.2.1
    have hRd : RdK StK w14 pA P := HNA.out.piv.1
    have HRd := Lib.hid hRd
    obtain ⟨N0, hN0⟩ : ∃ N0 : Option Addr, N0 = none := ⟨_, rfl⟩
    have HV0 : Hid (VK StK w14 w14.heap.size N0 0 []) := by
      unfold Hid
      rw [hN0]
      exact VK.nil _ _
    rw [← hN0] at u2
    have hsz0 := Nat.le_refl w14.heap.size
    clear hRd hN0
    go_upto_region 9 with (first
      | (at_builtin; refine wpList_append_allK (K := StK) Try.underlying27 slinfoS rfl (by decide) (by decide) rfl (.tmp 49) (.tmp 51) rfl w14.heap.size N0 0 0 [] rfl rfl HV0.out pA pn pc P rfl HPN.out HRd.out hn1 hsz0 ?_; intro A1 c1 w15 hv1 hb1; have hba : Below w15.heap.size w15 (w15.alloc (.cells #[.string p] 9)) := (Below.refl _ _).alloc (Nat.le_refl _) _; have hcl : Hid ((w15.alloc (.cells #[.string p] 9)).heap[w15.heap.size]? = some (.cells (StK.cs p).toArray StK.T (0, 0))) := heap_alloc_new w15 _; have HTX : Hid (VK StK (w15.alloc (.cells #[.string p] 9)) w14.heap.size A1 c1 ([] ++ P)) := hv1.out.kept hba; have HBA : Hid (Below w14.heap.size w14 (w15.alloc (.cells #[.string p] 9))) := hb1.out.trans (hba.mono hb1.out.size); have hsz1 := HBA.out.size; have HL1 : Hid (([] ++ P).length = pn) := (by unfold Hid; simp [HPN.out]); clear hba)
      | (at_builtin; refine wpList_appendK (K := StK) Try.underlying27 slinfoS rfl (by decide) (by decide) rfl (.tmp 52) (.tmp 54) rfl w14.heap.size A1 pn c1 ([] ++ P) rfl HL1.out HTX.out w15.heap.size 1 p rfl hcl.out hn2 hsz1 ?_; intro A2 c2 w16 hd'; have HBB : Hid (Below w14.heap.size w14 w16) := HBA.out.trans hd'.out.below; have HGN := Lib.hid HB.out.size; replace HB := Lib.hid (HB.out.kept HBB.out); clear d0 d1 d2 d3 d4 e0 e1 e2 e3 e4 u0 u1 u2 u3 u4 t0 t1 t2 t3 t4 f0 f1 f2 f3 f4; obtain ⟨u0, u1, u2, u3, u4⟩ := box5 HB.out.n; have fr := free5 HB.out.n 2))
    clear u0 u1 u2 u3 u4 fr HNA HV0 hsz0 hsz1 hcl HTX HL1 HBA hv1 hb1 hn1 hn2 HRd
    have HKk : Hid (∀ x, Sk = some x → x.block < w14.heap.size) := fun x hx => (HRk.out.at_ x hx).2
    have HKb : Hid (∀ x, Sb = some x → x.block < w14.heap.size) := fun x hx => (HRb.out.at_ x hx).2
    have HKq : Hid (∀ x, Sq = some x → x.block < w14.heap.size) := fun x hx => (HRq.out.at_ x hx).2
    replace HRk := Lib.hid (vkset (i := 2) (HRk.out.kept HBB.out) (.slice A2 (pn + 1) c2) (Nat.lt_succ_self _))
    replace HRb := Lib.hid (vkset (i := 2) (HRb.out.kept HBB.out) (.slice A2 (pn + 1) c2) (Nat.lt_succ_self _))
    replace HRq := Lib.hid (vkset (i := 2) (HRq.out.kept HBB.out) (.slice A2 (pn + 1) c2) (Nat.lt_succ_self _))
    have HRp : Hid (VK StK (w16.setCell ⟨gn, 2, none⟩ (.slice A2 (pn + 1) c2)) w14.heap.size A2 c2 ([] ++ P ++ [p])) := vkset hd'.out.vo _ HGN.out
    have HRd : Hid (RdK StK (w16.setCell ⟨gn, 2, none⟩ (.slice A2 (pn + 1) c2)) pA' P') := (HA'.out.kept ((HB.out.set2 (.slice A2 (pn + 1) c2)).b3.below)).piv.1
    have hsz2 : w14.heap.size ≤ (w16.setCell ⟨gn, 2, none⟩ (.slice A2 (pn + 1) c2)).heap.size := Nat.le_trans HBB.out.size (Nat.le_of_eq (by simp))
    replace HB := Lib.hid (HB.out.set2 (.slice A2 (pn + 1) c2))
    have HL2 : Hid (([] ++ P ++ [p]).length = pn + 1) := by unfold Hid; rw [List.length_append, List.length_append, HPN.out]; simp
    have hn2 := HSZ.out.2.1
    clear hd' HBB HNB
    generalize w16.setCell ⟨gn, 2, none⟩ (.slice A2 (pn + 1) c2) = w17 at *
    obtain ⟨e0, e1, e2, e3, e4⟩ := box5 HB.out.b3.y
    obtain ⟨u0, u1, u2, u3, u4⟩ := box5 HB.out.n
    go_upto_region 10 with (at_builtin; refine wpList_append_allK (K := StK) Try.underlying27 slinfoS rfl (by decide) (by decide) rfl (.tmp 58) (.tmp 60) rfl w14.heap.size A2 (pn + 1) c2 ([] ++ P ++ [p]) rfl HL2.out HRp.out pA' pn' pc' P' rfl HPN'.out HRd.out hn2 hsz2 ?_; intro A5 c5 w18 hv5 hb5; have HBC := Lib.hid hb5.out; replace HB := Lib.hid (HB.out.grow HBC.out HGN.out); clear e0 e1 e2 e3 e4 u0 u1 u2 u3 u4; obtain ⟨u0, u1, u2, u3, u4⟩ := box5 HB.out.n; have fr := free5 HB.out.n 2)
    clear u0 u1 u2 u3 u4 fr hsz2 hn2 HL2 HRd HRp
    replace HRk := Lib.hid (vkset (i := 2) (vk_below HRk.out HBC.out HKk.out) (.slice A5 (pn + 1 + pn') c5) (Nat.lt_succ_self _))
    replace HRb := Lib.hid (vkset (i := 2) (vk_below HRb.out HBC.out HKb.out) (.slice A5 (pn + 1 + pn') c5) (Nat.lt_succ_self _))
    replace HRq := Lib.hid (vkset (i := 2) (vk_below HRq.out HBC.out HKq.out) (.slice A5 (pn + 1 + pn') c5) (Nat.lt_succ_self _))
    have HRp : Hid (VK StK (w18.setCell ⟨gn, 2, none⟩ (.slice A5 (pn + 1 + pn') c5)) (gn + 1) A5 c5 XP) := by
      have := vkset (i := 2) (hv5.out.mono HGN.out) (.slice A5 (pn + 1 + pn') c5) (Nat.lt_succ_self _)
      rw [List.nil_append, HXP.out] at this
      exact this
    replace HB := Lib.hid (HB.out.set2 (.slice A5 (pn + 1 + pn') c5))
    clear hv5 hb5 HBC HKk HKb HKq HGN
    generalize w18.setCell ⟨gn, 2, none⟩ (.slice A5 (pn + 1 + pn') c5) = w19 at *
    obtain ⟨d0, d1, d2, d3, d4⟩ := box5 HB.out.b3.x
    obtain ⟨e0, e1, e2, e3, e4⟩ := box5 HB.out.b3.y
    obtain ⟨u0, u1, u2, u3, u4⟩ := box5 HB.out.n
    obtain ⟨t0, t1, t2, t3, t4⟩ := box5 HB.out.b3.z
    have f0 := free5 HB.out.b3.z 0; have f1 := free5 HB.out.b3.z 1; have f2 := free5 HB.out.b3.z 2; have f3 := free5 HB.out.b3.z 3; have f4 := free5 HB.out.b3.z 4
    go_wp2_with fail
    clear d0 d1 d2 d3 d4 e0 e1 e2 e3 e4 u0 u1 u2 u3 u4 t0 t1 t2 t3 t4 f0 f1 f2 f3 f4
    have HI := Lib.hid (into_set5 w19 (g + 1 + 1) (.int .i64 lv) (.slice Sk (kn + kn') sk) (.slice A5 (pn + 1 + pn') c5) (.slice Sb (bn + bn') sb) (.slice Sq (qn + qn') sq))
    have HU := Lib.hid (set5_at HB.out.b3.z (.int .i64 lv) (.slice Sk (kn + kn') sk) (.slice A5 (pn + 1 + pn') c5) (.slice Sb (bn + bn') sb) (.slice Sq (qn + qn') sq))
    have HBW := Lib.hid (set5_below HB.out.b3.below (show W.heap.size ≤ g + 1 + 1 from Nat.le_trans HB.out.b3.at_ (by omega)) (.int .i64 lv) (.slice Sk (kn + kn') sk) (.slice A5 (pn + 1 + pn') c5) (.slice Sb (bn + bn') sb) (.slice Sq (qn + qn') sq))
    have hlt : g + 1 + 1 < gn + 1 := Nat.lt_succ_of_lt HB.out.lt
    replace HRk := Lib.hid (HRk.out.into HI.out fun a ha hm => by have h1 := (HRk.out.at_ a ha).1; have h3 : a.block = g + 1 + 1 := (by simpa using hm); omega)
    replace HRb := Lib.hid (HRb.out.into HI.out fun a ha hm => by have h1 := (HRb.out.at_ a ha).1; have h3 : a.block = g + 1 + 1 := (by simpa using hm); omega)
    replace HRq := Lib.hid (HRq.out.into HI.out fun a ha hm => by have h1 := (HRq.out.at_ a ha).1; have h3 : a.block = g + 1 + 1 := (by simpa using hm); omega)
    replace HRp := Lib.hid (HRp.out.into HI.out fun a ha hm => by have h1 := (HRp.out.at_ a ha).1; have h3 : a.block = g + 1 + 1 := (by simpa using hm); omega)
    unfold set5 at HU HBW HRk HRb HRq HRp
    generalize ((((w19.setCell ⟨g + 1 + 1, 0, none⟩ (.int .i64 lv)).setCell ⟨g + 1 + 1, 1, none⟩ (.slice Sk (kn + kn') sk)).setCell ⟨g + 1 + 1, 2, none⟩ (.slice A5 (pn + 1 + pn') c5)).setCell ⟨g + 1 + 1, 3, none⟩ (.slice Sb (bn + bn') sb)).setCell ⟨g + 1 + 1, 4, none⟩ (.slice Sq (qn + qn') sq) = w99 at *
    obtain ⟨t0, t1, t2, t3, t4⟩ := box5 HU.out
    refine bodyPost_ret (v := .tuple #[.agg #[.int .i64 lv, .slice Sk (kn + kn') sk, .slice A5 (pn + 1 + pn') c5, .slice Sb (bn + bn') sb, .slice Sq (qn + qn') sq], .bool true]) (by simp [results, Try.results9, go_sem, t0, t1, t2, t3, t4]) rfl ⟨⟨_, rfl, ?_⟩, HBW.out⟩
    rw [HJ.out, HPI.out]
    refine ⟨⟨Sk, sk, A5, c5, Sb, sb, Sq, sq⟩, ?_, ⟨HRk.out.rc, HRp.out.rc, HRb.out.rc, HRq.out.rc⟩⟩
    simp only [ndCs, List.length_append, HKN.out, HKN'.out, HBN.out, HBN'.out, HQN.out, HQN'.out, HMP.out, HMP2.out]
  · have hd0 : decide (0 < lv) = false := by simpa using h0
    have HPI : Hid ((if 0 < lv then P ++ [p] ++ P' else []) = []) := if_neg h0
    clear h0
    go_wp2_with fail
    clear d0 d1 d2 d3 d4 e0 e1 e2 e3 e4 u0 u1 u2 u3 u4 t0 t1 t2 t3 t4 f0 f1 f2 f3 f4
    have HI := Lib.hid (into_set5 w14 (g + 1 + 1) (.int .i64 lv) (.slice Sk (kn + kn') sk) (.slice none 0 0) (.slice Sb (bn + bn') sb) (.slice Sq (qn + qn') sq))
    have HU := Lib.hid (set5_at HB.out.b3.z (.int .i64 lv) (.slice Sk (kn + kn') sk) (.slice none 0 0) (.slice Sb (bn + bn') sb) (.slice Sq (qn + qn') sq))
    have HBW := Lib.hid (set5_below HB.out.b3.below (show W.heap.size ≤ g + 1 + 1 from Nat.le_trans HB.out.b3.at_ (by omega)) (.int .i64 lv) (.slice Sk (kn + kn') sk) (.slice none 0 0) (.slice Sb (bn + bn') sb) (.slice Sq (qn + qn') sq))
    have hlt : g + 1 + 1 < gn + 1 := Nat.lt_succ_of_lt HB.out.lt
    replace HRk := Lib.hid (HRk.out.into HI.out fun a ha hm => by have h1 := (HRk.out.at_ a ha).1; have h3 : a.block = g + 1 + 1 := (by simpa using hm); omega)
    replace HRb := Lib.hid (HRb.out.into HI.out fun a ha hm => by have h1 := (HRb.out.at_ a ha).1; have h3 : a.block = g + 1 + 1 := (by simpa using hm); omega)
    replace HRq := Lib.hid (HRq.out.into HI.out fun a ha hm => by have h1 := (HRq.out.at_ a ha).1; have h3 : a.block = g + 1 + 1 := (by simpa using hm); omega)
    unfold set5 at HU HBW HRk HRb HRq
    generalize ((((w14.setCell ⟨g + 1 + 1, 0, none⟩ (.int .i64 lv)).setCell ⟨g + 1 + 1, 1, none⟩ (.slice Sk (kn + kn') sk)).setCell ⟨g + 1 + 1, 2, none⟩ (.slice none 0 0)).setCell ⟨g + 1 + 1, 3, none⟩ (.slice Sb (bn + bn') sb)).setCell ⟨g + 1 + 1, 4, none⟩ (.slice Sq (qn + qn') sq) = w99 at *
    obtain ⟨t0, t1, t2, t3, t4⟩ := box5 HU.out
    refine bodyPost_ret (v := .tuple #[.agg #[.int .i64 lv, .slice Sk (kn + kn') sk, .slice none 0 0, .slice Sb (bn + bn') sb, .slice Sq (qn + qn') sq], .bool true]) (by simp [results, Try.results9, go_sem, t0, t1, t2, t3, t4]) rfl ⟨⟨_, rfl, ?_⟩, HBW.out⟩
    rw [HJ.out, HPI.out]
    refine ⟨⟨Sk, sk, none, 0, Sb, sb, Sq, sq⟩, ?_, ⟨HRk.out.rc, RC.nil _ _ _, HRb.out.rc, HRq.out.rc⟩⟩
    simp only [ndCs, List.length_append, List.length_nil, HKN.out, HKN'.out, HBN.out, HBN'.out, HQN.out, HQN'.out]
