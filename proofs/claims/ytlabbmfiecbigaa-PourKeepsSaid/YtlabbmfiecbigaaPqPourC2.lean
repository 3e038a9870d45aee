/-
  PourC2. Put together by pack.py.
-/
import Derived.Test.YtlabbmfiecbigaaPkAS
import Derived.Test.YtlabbmfiecbigaaPqPourR2

namespace Go.Proofs.Ytlabbmfiecbigaa
open Go.RowKit
namespace No
open Mem Lx Bu Lf Fa
theorem vk_set1 {α : Type} {K : Kind α} {w w' : World} {B c b : Nat} {A : Option Addr} {L : List α} (h : VK K w B A c L) (hi : Flow.Into [b] w w') (hb : b < B) : VK K w' B A c L := h.into hi fun a ha hm => by
  have h1 := (h.at_ a ha).1
  obtain rfl : a.block = b := by simpa using hm
  omega
/-- a node told by a call, some of its lists where they were -/
def EvNd (n : Nd) (v : Value) (w : World) : Prop := ∃ z, v = .agg (ndCs n z) ∧ NdIn w n z
theorem Q2.set4 {w : World} {b : Nat} {u0 u1 u2 u3 u4 : Value} {U : TypeId} (h : w.heap[b]? = some (.cells #[u0, u1, u2, u3, u4] U (0, 0))) (v : Value) : (w.setCell ⟨b, 4, none⟩ v).heap[b]? = some (.cells #[u0, u1, u2, u3, v] U (0, 0)) := by
  simp [World.setCell, Array.getElem?_modify, h]
theorem Q2.set3 {w : World} {b : Nat} {u0 u1 u2 u3 u4 : Value} {U : TypeId} (h : w.heap[b]? = some (.cells #[u0, u1, u2, u3, u4] U (0, 0))) (v : Value) : (w.setCell ⟨b, 3, none⟩ v).heap[b]? = some (.cells #[u0, u1, u2, v, u4] U (0, 0)) := by
  simp [World.setCell, Array.getElem?_modify, h]
set_option maxRecDepth 100000 in
set_option maxHeartbeats 8000000 in
theorem Gather_any {W : World} {M : List Mg} {A : Option Addr} {c : Nat} {k : Nd} {b : At} (hM : RC MgK W A c M) (hb : NdIn W k b) (hk : Fit k) (hMl : M.length ≤ 150) (hMk : ∀ m, m ∈ M → m.1.size ≤ 1000) (hR : Ri M) (hleaf : k.lv = 0 → PRi k.prs) (hin : k.lv ≠ 0 → Ri k.buf) : Calls Try.prog 21 #[.slice A M.length c, .agg (ndCs k b)] W fun e w' => (∃ v, e = .returned v ∧ EvNd (intoN k M) v w') ∧ Below W.heap.size W w' := by
  have cA : k.lv = 0 → ∀ w, Below W.heap.size W w → Hid (Calls Try.prog 48 #[.slice b.qA k.prs.length b.qc, .slice A M.length c] w fun e w' => (∃ A2 c2, e = .returned (.slice A2 (applyP k.prs M).length c2) ∧ VK PrK w' w.heap.size A2 c2 (applyP k.prs M)) ∧ Below w.heap.size w w') := fun h0 w h => Apply_row (c := b.qc) (c' := c) (hb.prs.kept h) (hM.kept h) (fun x hx => Nat.le_trans (hk.qk x hx) (by decide)) hMk (hleaf h0) (Nat.le_trans hk.prs (by decide)) (Nat.le_trans hMl (by decide))
  have cM : k.lv ≠ 0 → ∀ w, Below W.heap.size W w → Hid (Calls Try.prog 49 #[.slice A M.length c, .slice b.bA k.buf.length b.bc] w fun e w' => (∃ A2 c2, e = .returned (.slice A2 (mergeD M k.buf).length c2) ∧ M3 w' w.heap.size A2 c2 (mergeD M k.buf)) ∧ Below w.heap.size w w') := fun h0 w h => Merge_row (c := c) (c' := b.bc) (hM.kept h) (hb.buf.kept h) hMk (fun x hx => Nat.le_trans (hk.bk x hx) (by decide)) hR (hin h0) (Nat.le_trans hMl (by decide)) (Nat.le_trans hk.buf (by decide))
  have HN := Lib.hid hb
  clear hM hb hk hMl hMk hR hleaf hin
  obtain ⟨lv, K, P, B, Q⟩ := k
  obtain ⟨kA, kc, pA, pc, bA, bc, qA, qc⟩ := b
  by_cases e : lv = 0
  · subst e
    replace cA := cA rfl
    clear cM
    have HE : EvNd (intoN ⟨0, K, P, B, Q⟩ M) = EvNd ⟨0, K, P, B, applyP Q M⟩ := rfl
    rw [HE]
    have HG : Hid (∀ {w A2 c2}, NdIn w ⟨0, K, P, B, applyP Q M⟩ ⟨kA, kc, pA, pc, bA, bc, A2, c2⟩ → EvNd ⟨0, K, P, B, applyP Q M⟩ (.agg #[.int .i64 0, .slice kA K.length kc, .slice pA P.length pc, .slice bA B.length bc, .slice A2 (applyP Q M).length c2]) w) := fun h => ⟨_, rfl, h⟩
    have HL : Hid (∀ {w A2 c2}, NdIn w ⟨0, K, P, B, Q⟩ ⟨kA, kc, pA, pc, bA, bc, qA, qc⟩ → RC PrK w A2 c2 (applyP Q M) → NdIn w ⟨0, K, P, B, applyP Q M⟩ ⟨kA, kc, pA, pc, bA, bc, A2, c2⟩) := fun HN HV => ⟨HN.kids, HN.piv, HN.buf, HV⟩
    clear HE
    generalize EvNd ⟨0, K, P, B, applyP Q M⟩ = E at *
    unfold ndCs
    simp only at *
    generalize applyP Q M = X at *
    generalize K.length = kn at *
    generalize P.length = pn at *
    generalize B.length = bn at *
    generalize Q.length = qn at *
    generalize X.length = xn at *
    generalize M.length = mn at *
    go_enter Try.func21, Try.ntmps21
    go_upto_region 1 with fail
    have hn := two_new W (.cells #[.int .i64 0, .slice kA kn kc, .slice pA pn pc, .slice bA bn bc, .slice qA qn qc] 29) (.cells #[.int .i64 0, .slice none 0 0, .slice none 0 0, .slice none 0 0, .slice none 0 0] 29)
    generalize (W.alloc (.cells #[.int .i64 0, .slice kA kn kc, .slice pA pn pc, .slice bA bn bc, .slice qA qn qc] 29)).alloc (.cells #[.int .i64 0, .slice none 0 0, .slice none 0 0, .slice none 0 0, .slice none 0 0] 29) = w1 at *
    obtain ⟨g, hg⟩ : ∃ g, g = W.heap.size := ⟨_, rfl⟩
    have HW : Hid (W.heap.size ≤ g) := by rw [hg]; exact Nat.le_refl _
    obtain ⟨hx, hy, hb⟩ := hn
    rw [← hg] at hx hy
    simp only [← hg]
    clear hg
    have HX := Lib.hid hx
    have HY := Lib.hid hy
    have HB := Lib.hid hb
    clear hx hy hb
    obtain ⟨d0, d1, d2, d3, d4⟩ := box5 HX.out
    have cL := Lib.hid (CIsLeaf_any 0 kA pA bA qA kn kc pn pc bn bc qn qc w1)
    go_upto_region 2 with (go_at_call 47; refine cL.out.mono ?_; rintro e w2 ⟨rfl, hb⟩; replace HX := Lib.hid (kept3 HX.out hb); replace HY := Lib.hid (kept3 HY.out hb); replace HB := Lib.hid (HB.out.trans (hb.mono HB.out.size)); clear hb d0 d1 d2 d3 d4 cL)
    obtain ⟨d0, d1, d2, d3, d4⟩ := box5 HX.out
    have fK := free5 HX.out 4
    go_upto_region 4 with (go_at_call 48; refine (cA _ HB.out).out.mono ?_; rintro e w3 ⟨⟨A2, c2, rfl, hv⟩, hb⟩; have HV := Lib.hid hv; have HS : Hid (g + 1 < w2.heap.size) := (Array.getElem?_eq_some_iff.1 HY.out).1; replace HX := Lib.hid (kept3 HX.out hb); replace HY := Lib.hid (kept3 HY.out hb); replace HB := Lib.hid (HB.out.trans (hb.mono HB.out.size)); clear hb hv d0 d1 d2 d3 d4 fK cA; obtain ⟨d0, d1, d2, d3, d4⟩ := box5 HX.out; have fK := free5 HX.out 4)
    have HX4 := Lib.hid (Q2.set4 HX.out (.slice A2 xn c2))
    have HY4 := Lib.hid ((set_other (w := w3) (b := g) (i := 4) (.slice A2 xn c2) (show g + 1 ≠ g by omega)).trans HY.out)
    have HB4 := Lib.hid (HB.out.setCell (p := ⟨g, 4, none⟩) HW.out (.slice A2 xn c2))
    have HV4 := Lib.hid (vk_setp (i := 4) HV.out (.slice A2 xn c2) (Nat.lt_of_succ_lt HS.out))
    clear d0 d1 d2 d3 d4 fK HX HY HB HV
    generalize w3.setCell ⟨g, 4, none⟩ (.slice A2 xn c2) = w4 at *
    obtain ⟨d0, d1, d2, d3, d4⟩ := box5 HX4.out
    have y0 := free5 HY4.out 0; have y1 := free5 HY4.out 1; have y2 := free5 HY4.out 2; have y3 := free5 HY4.out 3; have y4 := free5 HY4.out 4
    obtain ⟨u0, u1, u2, u3, u4⟩ := box5 HY4.out
    have HU := Lib.hid (set5_at HY4.out (.int .i64 0) (.slice kA kn kc) (.slice pA pn pc) (.slice bA bn bc) (.slice A2 xn c2))
    have HI5 := Lib.hid (into_set5 w4 (g + 1) (.int .i64 0) (.slice kA kn kc) (.slice pA pn pc) (.slice bA bn bc) (.slice A2 xn c2))
    have HBW := Lib.hid (set5_below HB4.out (Nat.le_succ_of_le HW.out) (.int .i64 0) (.slice kA kn kc) (.slice pA pn pc) (.slice bA bn bc) (.slice A2 xn c2))
    unfold set5 at HU HI5 HBW
    have HV5 := Lib.hid (vk_set1 HV4.out HI5.out HS.out)
    go_wp2_with fail
    clear HI5 y0 y1 y2 y3 y4 u0 u1 u2 u3 u4 d0 d1 d2 d3 d4 HX4 HY4 HB4 HV4
    generalize ((((w4.setCell ⟨g + 1, 0, none⟩ (.int .i64 0)).setCell ⟨g + 1, 1, none⟩ (.slice kA kn kc)).setCell ⟨g + 1, 2, none⟩ (.slice pA pn pc)).setCell ⟨g + 1, 3, none⟩ (.slice bA bn bc)).setCell ⟨g + 1, 4, none⟩ (.slice A2 xn c2) = w9 at *
    obtain ⟨x0, x1, x2, x3, x4⟩ := box5 HU.out
    exact bodyPost_ret (v := .agg #[.int .i64 0, .slice kA kn kc, .slice pA pn pc, .slice bA bn bc, .slice A2 xn c2]) (by simp [results, Try.results21, go_sem, x0, x1, x2, x3, x4]) rfl ⟨⟨_, rfl, HG.out (HL.out (HN.out.kept HBW.out) HV5.out.rc)⟩, HBW.out⟩
  · replace cM := cM e
    clear cA
    have HE : EvNd (intoN ⟨lv, K, P, B, Q⟩ M) = EvNd ⟨lv, K, P, mergeD M B, Q⟩ := by
      unfold intoN
      rw [if_neg e]
    have hz : decide (lv = 0) = false := by simpa using e
    rw [HE]
    have HG : Hid (∀ {w A2 c2}, NdIn w ⟨lv, K, P, mergeD M B, Q⟩ ⟨kA, kc, pA, pc, A2, c2, qA, qc⟩ → EvNd ⟨lv, K, P, mergeD M B, Q⟩ (.agg #[.int .i64 lv, .slice kA K.length kc, .slice pA P.length pc, .slice A2 (mergeD M B).length c2, .slice qA Q.length qc]) w) := fun h => ⟨_, rfl, h⟩
    have HL : Hid (∀ {w A2 c2}, NdIn w ⟨lv, K, P, B, Q⟩ ⟨kA, kc, pA, pc, bA, bc, qA, qc⟩ → RC MgK w A2 c2 (mergeD M B) → NdIn w ⟨lv, K, P, mergeD M B, Q⟩ ⟨kA, kc, pA, pc, A2, c2, qA, qc⟩) := fun HN HV => ⟨HN.kids, HN.piv, HV, HN.prs⟩
    clear HE
    generalize EvNd ⟨lv, K, P, mergeD M B, Q⟩ = E at *
    unfold ndCs
    simp only at *
    generalize mergeD M B = X at *
    generalize K.length = kn at *
    generalize P.length = pn at *
    generalize B.length = bn at *
    generalize Q.length = qn at *
    generalize X.length = xn at *
    generalize M.length = mn at *
    go_enter Try.func21, Try.ntmps21
    go_upto_region 1 with fail
    have hn := two_new W (.cells #[.int .i64 lv, .slice kA kn kc, .slice pA pn pc, .slice bA bn bc, .slice qA qn qc] 29) (.cells #[.int .i64 0, .slice none 0 0, .slice none 0 0, .slice none 0 0, .slice none 0 0] 29)
    generalize (W.alloc (.cells #[.int .i64 lv, .slice kA kn kc, .slice pA pn pc, .slice bA bn bc, .slice qA qn qc] 29)).alloc (.cells #[.int .i64 0, .slice none 0 0, .slice none 0 0, .slice none 0 0, .slice none 0 0] 29) = w1 at *
    obtain ⟨g, hg⟩ : ∃ g, g = W.heap.size := ⟨_, rfl⟩
    have HW : Hid (W.heap.size ≤ g) := by rw [hg]; exact Nat.le_refl _
    obtain ⟨hx, hy, hb⟩ := hn
    rw [← hg] at hx hy
    simp only [← hg]
    clear hg
    have HX := Lib.hid hx
    have HY := Lib.hid hy
    have HB := Lib.hid hb
    clear hx hy hb
    obtain ⟨d0, d1, d2, d3, d4⟩ := box5 HX.out
    have cL := Lib.hid (CIsLeaf_any lv kA pA bA qA kn kc pn pc bn bc qn qc w1)
    rw [hz] at cL
    clear hz e
    go_upto_region 3 with (go_at_call 47; refine cL.out.mono ?_; rintro e w2 ⟨rfl, hb⟩; replace HX := Lib.hid (kept3 HX.out hb); replace HY := Lib.hid (kept3 HY.out hb); replace HB := Lib.hid (HB.out.trans (hb.mono HB.out.size)); clear hb d0 d1 d2 d3 d4 cL)
    obtain ⟨d0, d1, d2, d3, d4⟩ := box5 HX.out
    have fK := free5 HX.out 3
    go_upto_region 4 with (go_at_call 49; refine (cM _ HB.out).out.mono ?_; rintro e w3 ⟨⟨A2, c2, rfl, hv⟩, hb⟩; have HV := Lib.hid hv; have HS : Hid (g + 1 < w2.heap.size) := (Array.getElem?_eq_some_iff.1 HY.out).1; replace HX := Lib.hid (kept3 HX.out hb); replace HY := Lib.hid (kept3 HY.out hb); replace HB := Lib.hid (HB.out.trans (hb.mono HB.out.size)); clear hb hv d0 d1 d2 d3 d4 fK cM; obtain ⟨d0, d1, d2, d3, d4⟩ := box5 HX.out; have fK := free5 HX.out 3)
    have HX4 := Lib.hid (Q2.set3 HX.out (.slice A2 xn c2))
    have HY4 := Lib.hid ((set_other (w := w3) (b := g) (i := 3) (.slice A2 xn c2) (show g + 1 ≠ g by omega)).trans HY.out)
    have HB4 := Lib.hid (HB.out.setCell (p := ⟨g, 3, none⟩) HW.out (.slice A2 xn c2))
    have HV4 := Lib.hid (vk_setp (i := 3) HV.out (.slice A2 xn c2) (Nat.lt_of_succ_lt HS.out))
    clear d0 d1 d2 d3 d4 fK HX HY HB HV
    generalize w3.setCell ⟨g, 3, none⟩ (.slice A2 xn c2) = w4 at *
    obtain ⟨d0, d1, d2, d3, d4⟩ := box5 HX4.out
    have y0 := free5 HY4.out 0; have y1 := free5 HY4.out 1; have y2 := free5 HY4.out 2; have y3 := free5 HY4.out 3; have y4 := free5 HY4.out 4
    obtain ⟨u0, u1, u2, u3, u4⟩ := box5 HY4.out
    have HU := Lib.hid (set5_at HY4.out (.int .i64 lv) (.slice kA kn kc) (.slice pA pn pc) (.slice A2 xn c2) (.slice qA qn qc))
    have HI5 := Lib.hid (into_set5 w4 (g + 1) (.int .i64 lv) (.slice kA kn kc) (.slice pA pn pc) (.slice A2 xn c2) (.slice qA qn qc))
    have HBW := Lib.hid (set5_below HB4.out (Nat.le_succ_of_le HW.out) (.int .i64 lv) (.slice kA kn kc) (.slice pA pn pc) (.slice A2 xn c2) (.slice qA qn qc))
    unfold set5 at HU HI5 HBW
    have HV5 := Lib.hid (vk_set1 HV4.out HI5.out HS.out)
    go_wp2_with fail
    clear HI5 y0 y1 y2 y3 y4 u0 u1 u2 u3 u4 d0 d1 d2 d3 d4 HX4 HY4 HB4 HV4
    generalize ((((w4.setCell ⟨g + 1, 0, none⟩ (.int .i64 lv)).setCell ⟨g + 1, 1, none⟩ (.slice kA kn kc)).setCell ⟨g + 1, 2, none⟩ (.slice pA pn pc)).setCell ⟨g + 1, 3, none⟩ (.slice A2 xn c2)).setCell ⟨g + 1, 4, none⟩ (.slice qA qn qc) = w9 at *
    obtain ⟨x0, x1, x2, x3, x4⟩ := box5 HU.out
    exact bodyPost_ret (v := .agg #[.int .i64 lv, .slice kA kn kc, .slice pA pn pc, .slice A2 xn c2, .slice qA qn qc]) (by simp [results, Try.results21, go_sem, x0, x1, x2, x3, x4]) rfl ⟨⟨_, rfl, HG.out (HL.out (HN.out.kept HBW.out) HV5.out.rc)⟩, HBW.out⟩
end No
end Go.Proofs.Ytlabbmfiecbigaa
