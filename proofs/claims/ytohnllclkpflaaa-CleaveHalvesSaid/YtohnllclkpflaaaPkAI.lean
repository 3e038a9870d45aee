/-
  NodeK3, MsgPi, PairPi, CleaveD, Box5, CleaveC1, SlCloneK, SlCatK. Put together by pack.py.
-/
import Derived.Test.YtohnllclkpflaaaPkAG
import Derived.Test.YtohnllclkpflaaaPkAH
import Derived.Deep.RegionWith
import Derived.Test.YtohnllclkpflaaaPkAE
import Derived.Test.YtohnllclkpflaaaDrift
import Derived.Test.YtohnllclkpflaaaPkAC
import Derived.Lib.AppendZeros
import Derived.Lib.SliceRun

namespace Go.Proofs.Ytohnllclkpflaaa
open Go.RowKit
namespace No
open Mem Lx Bu
open Lf (Pr PrK PL P3 PC)
open Fa (StK SL SC wayS SRise RightS)
theorem nd_eq {n n' : Nd} : n = n' ↔ n.lv = n'.lv ∧ n.kids = n'.kids ∧ n.piv = n'.piv ∧ n.buf = n'.buf ∧ n.prs = n'.prs := by
  obtain ⟨a, b, c, d, e⟩ := n
  obtain ⟨a', b', c', d', e'⟩ := n'
  simp
set_option maxRecDepth 100000 in
set_option maxHeartbeats 4000000 in
theorem RSame_any {W : World} {n n' : Nd} {a a' : At} (h : NdIn W n a) (h' : NdIn W n' a') (hs : Sz n) (hs' : Sz n') : Calls Try.prog 12 #[.agg (ndCs n a), .agg (ndCs n' a')] W fun e w' => (∃ v : Bool, e = .returned (.bool v) ∧ (v = true ↔ n = n')) ∧ Below W.heap.size W w' := by
  obtain ⟨b1, hb1⟩ := bool_of (n.kids = n'.kids)
  obtain ⟨b2, hb2⟩ := bool_of (n.piv = n'.piv)
  obtain ⟨b3, hb3⟩ := bool_of (n.buf = n'.buf)
  obtain ⟨b4, hb4⟩ := bool_of (n.prs = n'.prs)
  have c1 : ∀ (W1 : World), Below W.heap.size W W1 → Hid (Calls Try.prog 13 #[.slice a.kA n.kids.length a.kc, .slice a'.kA n'.kids.length a'.kc] W1 fun e w' => e = .returned (.bool b1) ∧ Below W1.heap.size W1 w') := fun W1 hb => (RBlocks_any (c := a.kc) (c' := a'.kc) (h.kept hb).kids.1 (h'.kept hb).kids.1 (Nat.le_trans hs.kl (by decide)) (Nat.le_trans hs'.kl (by decide))).mono fun e w' ⟨⟨v, he, hv⟩, hb⟩ => ⟨by rw [he, bool_one hv hb1], hb⟩
  have c2 : ∀ (W1 : World), Below W.heap.size W W1 → Hid (Calls Try.prog 27 #[.slice a.pA n.piv.length a.pc, .slice a'.pA n'.piv.length a'.pc] W1 fun e w' => e = .returned (.bool b2) ∧ Below W1.heap.size W1 w') := fun W1 hb => (Fa.RSameS_any (c := a.pc) (c' := a'.pc) (h.kept hb).piv.1 (h'.kept hb).piv.1 (Nat.le_trans hs.pl (by decide)) (Nat.le_trans hs'.pl (by decide))).mono fun e w' ⟨⟨v, he, hv⟩, hb⟩ => ⟨by rw [he, bool_one hv hb2], hb⟩
  have c3 : ∀ (W1 : World), Below W.heap.size W W1 → Hid (Calls Try.prog 28 #[.slice a.bA n.buf.length a.bc, .slice a'.bA n'.buf.length a'.bc] W1 fun e w' => e = .returned (.bool b3) ∧ Below W1.heap.size W1 w') := fun W1 hb => (Bu.RSame_any (c := a.bc) (c' := a'.bc) (h.kept hb).buf.1 (h'.kept hb).buf.1 (Nat.le_trans hs.bl (by decide)) (Nat.le_trans hs'.bl (by decide))).mono fun e w' ⟨⟨v, he, hv⟩, hb⟩ => ⟨by rw [he, bool_one hv hb3], hb⟩
  have c4 : ∀ (W1 : World), Below W.heap.size W W1 → Hid (Calls Try.prog 29 #[.slice a.qA n.prs.length a.qc, .slice a'.qA n'.prs.length a'.qc] W1 fun e w' => e = .returned (.bool b4) ∧ Below W1.heap.size W1 w') := fun W1 hb => (Lf.RSame_any (c := a.qc) (c' := a'.qc) (h.kept hb).prs.1 (h'.kept hb).prs.1 (Nat.le_trans hs.ql (by decide)) (Nat.le_trans hs'.ql (by decide))).mono fun e w' ⟨⟨v, he, hv⟩, hb⟩ => ⟨by rw [he, bool_one hv hb4], hb⟩
  have HP : Hid (∀ v : Bool, v = (decide (n.lv = n'.lv) && b1 && b2 && b3 && b4) → (v = true ↔ n = n')) := fun v hv => by
    subst hv
    rw [nd_eq, Bool.and_eq_true, Bool.and_eq_true, Bool.and_eq_true, Bool.and_eq_true, hb1, hb2, hb3, hb4, decide_eq_true_iff, and_assoc, and_assoc, and_assoc]
  generalize hPP : (n = n') = PP at *
  clear hPP h h' hs hs' hb1 hb2 hb3 hb4
  obtain ⟨lv, K, P, B, Q⟩ := n
  obtain ⟨kA, kc, pA, pc, bA, bc, qA, qc⟩ := a
  obtain ⟨lv', K', P', B', Q'⟩ := n'
  obtain ⟨kA', kc', pA', pc', bA', bc', qA', qc'⟩ := a'
  unfold ndCs at *
  simp only at *
  generalize K.length = kn at *
  generalize P.length = pn at *
  generalize B.length = bn at *
  generalize Q.length = qn at *
  generalize K'.length = kn' at *
  generalize P'.length = pn' at *
  generalize B'.length = bn' at *
  generalize Q'.length = qn' at *
  go_enter Try.func12, Try.ntmps12
  go_upto_region 1 with fail
  have h3 := two_new W (.cells #[.int .i64 lv, .slice kA kn kc, .slice pA pn pc, .slice bA bn bc, .slice qA qn qc] 31) (.cells #[.int .i64 lv', .slice kA' kn' kc', .slice pA' pn' pc', .slice bA' bn' bc', .slice qA' qn' qc'] 31)
  generalize (W.alloc (.cells #[.int .i64 lv, .slice kA kn kc, .slice pA pn pc, .slice bA bn bc, .slice qA qn qc] 31)).alloc (.cells #[.int .i64 lv', .slice kA' kn' kc', .slice pA' pn' pc', .slice bA' bn' bc', .slice qA' qn' qc'] 31) = w1 at *
  have HB := Lib.hid h3.2.2
  obtain ⟨g, hg⟩ : ∃ g, g = W.heap.size := ⟨_, rfl⟩
  simp only [← hg]
  have HX : Hid (w1.heap[g]? = some (.cells #[.int .i64 lv, .slice kA kn kc, .slice pA pn pc, .slice bA bn bc, .slice qA qn qc] 31 (0, 0))) := by rw [hg]; exact h3.1
  have HY : Hid (w1.heap[g + 1]? = some (.cells #[.int .i64 lv', .slice kA' kn' kc', .slice pA' pn' pc', .slice bA' bn' bc', .slice qA' qn' qc'] 31 (0, 0))) := by rw [hg]; exact h3.2.1
  clear h3 hg
  obtain ⟨d0, d1, d2, d3, d4⟩ := box5 HX.out
  obtain ⟨e0, e1, e2, e3, e4⟩ := box5 HY.out
  by_cases hlv : lv = lv'
  case neg =>
    have hne : ¬ (lv = lv') := hlv
    go_wp2_with (first
      | (go_at_call 13; refine (c1 _ HB.out).out.mono ?_; rintro e w2 ⟨rfl, hb⟩; replace HB := Lib.hid (HB.out.trans (hb.mono HB.out.size)); replace HX := Lib.hid (kept3 HX.out hb); replace HY := Lib.hid (kept3 HY.out hb); replace d1 := (box5 HX.out).2.1; replace d2 := (box5 HX.out).2.2.1; replace d3 := (box5 HX.out).2.2.2.1; replace d4 := (box5 HX.out).2.2.2.2; replace e1 := (box5 HY.out).2.1; replace e2 := (box5 HY.out).2.2.1; replace e3 := (box5 HY.out).2.2.2.1; replace e4 := (box5 HY.out).2.2.2.2; clear hb)
      | (go_at_call 27; refine (c2 _ HB.out).out.mono ?_; rintro e w2 ⟨rfl, hb⟩; replace HB := Lib.hid (HB.out.trans (hb.mono HB.out.size)); replace HX := Lib.hid (kept3 HX.out hb); replace HY := Lib.hid (kept3 HY.out hb); replace d1 := (box5 HX.out).2.1; replace d2 := (box5 HX.out).2.2.1; replace d3 := (box5 HX.out).2.2.2.1; replace d4 := (box5 HX.out).2.2.2.2; replace e1 := (box5 HY.out).2.1; replace e2 := (box5 HY.out).2.2.1; replace e3 := (box5 HY.out).2.2.2.1; replace e4 := (box5 HY.out).2.2.2.2; clear hb)
      | (go_at_call 28; refine (c3 _ HB.out).out.mono ?_; rintro e w2 ⟨rfl, hb⟩; replace HB := Lib.hid (HB.out.trans (hb.mono HB.out.size)); replace HX := Lib.hid (kept3 HX.out hb); replace HY := Lib.hid (kept3 HY.out hb); replace d1 := (box5 HX.out).2.1; replace d2 := (box5 HX.out).2.2.1; replace d3 := (box5 HX.out).2.2.2.1; replace d4 := (box5 HX.out).2.2.2.2; replace e1 := (box5 HY.out).2.1; replace e2 := (box5 HY.out).2.2.1; replace e3 := (box5 HY.out).2.2.2.1; replace e4 := (box5 HY.out).2.2.2.2; clear hb)
      | (go_at_call 29; refine (c4 _ HB.out).out.mono ?_; rintro e w2 ⟨rfl, hb⟩; replace HB := Lib.hid (HB.out.trans (hb.mono HB.out.size)); replace HX := Lib.hid (kept3 HX.out hb); replace HY := Lib.hid (kept3 HY.out hb); replace d1 := (box5 HX.out).2.1; replace d2 := (box5 HX.out).2.2.1; replace d3 := (box5 HX.out).2.2.2.1; replace d4 := (box5 HX.out).2.2.2.2; replace e1 := (box5 HY.out).2.1; replace e2 := (box5 HY.out).2.2.1; replace e3 := (box5 HY.out).2.2.2.1; replace e4 := (box5 HY.out).2.2.2.2; clear hb))
    go_ret
    exact ⟨⟨false, rfl, HP.out false (by simp [hlv])⟩, HB.out⟩
  subst hlv
  cases b1 with
  | false =>
    go_wp2_with (first
      | (go_at_call 13; refine (c1 _ HB.out).out.mono ?_; rintro e w2 ⟨rfl, hb⟩; replace HB := Lib.hid (HB.out.trans (hb.mono HB.out.size)); replace HX := Lib.hid (kept3 HX.out hb); replace HY := Lib.hid (kept3 HY.out hb); replace d1 := (box5 HX.out).2.1; replace d2 := (box5 HX.out).2.2.1; replace d3 := (box5 HX.out).2.2.2.1; replace d4 := (box5 HX.out).2.2.2.2; replace e1 := (box5 HY.out).2.1; replace e2 := (box5 HY.out).2.2.1; replace e3 := (box5 HY.out).2.2.2.1; replace e4 := (box5 HY.out).2.2.2.2; clear hb)
      | (go_at_call 27; refine (c2 _ HB.out).out.mono ?_; rintro e w2 ⟨rfl, hb⟩; replace HB := Lib.hid (HB.out.trans (hb.mono HB.out.size)); replace HX := Lib.hid (kept3 HX.out hb); replace HY := Lib.hid (kept3 HY.out hb); replace d1 := (box5 HX.out).2.1; replace d2 := (box5 HX.out).2.2.1; replace d3 := (box5 HX.out).2.2.2.1; replace d4 := (box5 HX.out).2.2.2.2; replace e1 := (box5 HY.out).2.1; replace e2 := (box5 HY.out).2.2.1; replace e3 := (box5 HY.out).2.2.2.1; replace e4 := (box5 HY.out).2.2.2.2; clear hb)
      | (go_at_call 28; refine (c3 _ HB.out).out.mono ?_; rintro e w2 ⟨rfl, hb⟩; replace HB := Lib.hid (HB.out.trans (hb.mono HB.out.size)); replace HX := Lib.hid (kept3 HX.out hb); replace HY := Lib.hid (kept3 HY.out hb); replace d1 := (box5 HX.out).2.1; replace d2 := (box5 HX.out).2.2.1; replace d3 := (box5 HX.out).2.2.2.1; replace d4 := (box5 HX.out).2.2.2.2; replace e1 := (box5 HY.out).2.1; replace e2 := (box5 HY.out).2.2.1; replace e3 := (box5 HY.out).2.2.2.1; replace e4 := (box5 HY.out).2.2.2.2; clear hb)
      | (go_at_call 29; refine (c4 _ HB.out).out.mono ?_; rintro e w2 ⟨rfl, hb⟩; replace HB := Lib.hid (HB.out.trans (hb.mono HB.out.size)); replace HX := Lib.hid (kept3 HX.out hb); replace HY := Lib.hid (kept3 HY.out hb); replace d1 := (box5 HX.out).2.1; replace d2 := (box5 HX.out).2.2.1; replace d3 := (box5 HX.out).2.2.2.1; replace d4 := (box5 HX.out).2.2.2.2; replace e1 := (box5 HY.out).2.1; replace e2 := (box5 HY.out).2.2.1; replace e3 := (box5 HY.out).2.2.2.1; replace e4 := (box5 HY.out).2.2.2.2; clear hb))
    go_ret
    exact ⟨⟨false, rfl, HP.out false (by simp)⟩, HB.out⟩
  | true =>
    cases b2 with
    | false =>
      go_wp2_with (first
        | (go_at_call 13; refine (c1 _ HB.out).out.mono ?_; rintro e w2 ⟨rfl, hb⟩; replace HB := Lib.hid (HB.out.trans (hb.mono HB.out.size)); replace HX := Lib.hid (kept3 HX.out hb); replace HY := Lib.hid (kept3 HY.out hb); replace d1 := (box5 HX.out).2.1; replace d2 := (box5 HX.out).2.2.1; replace d3 := (box5 HX.out).2.2.2.1; replace d4 := (box5 HX.out).2.2.2.2; replace e1 := (box5 HY.out).2.1; replace e2 := (box5 HY.out).2.2.1; replace e3 := (box5 HY.out).2.2.2.1; replace e4 := (box5 HY.out).2.2.2.2; clear hb)
        | (go_at_call 27; refine (c2 _ HB.out).out.mono ?_; rintro e w2 ⟨rfl, hb⟩; replace HB := Lib.hid (HB.out.trans (hb.mono HB.out.size)); replace HX := Lib.hid (kept3 HX.out hb); replace HY := Lib.hid (kept3 HY.out hb); replace d1 := (box5 HX.out).2.1; replace d2 := (box5 HX.out).2.2.1; replace d3 := (box5 HX.out).2.2.2.1; replace d4 := (box5 HX.out).2.2.2.2; replace e1 := (box5 HY.out).2.1; replace e2 := (box5 HY.out).2.2.1; replace e3 := (box5 HY.out).2.2.2.1; replace e4 := (box5 HY.out).2.2.2.2; clear hb)
        | (go_at_call 28; refine (c3 _ HB.out).out.mono ?_; rintro e w2 ⟨rfl, hb⟩; replace HB := Lib.hid (HB.out.trans (hb.mono HB.out.size)); replace HX := Lib.hid (kept3 HX.out hb); replace HY := Lib.hid (kept3 HY.out hb); replace d1 := (box5 HX.out).2.1; replace d2 := (box5 HX.out).2.2.1; replace d3 := (box5 HX.out).2.2.2.1; replace d4 := (box5 HX.out).2.2.2.2; replace e1 := (box5 HY.out).2.1; replace e2 := (box5 HY.out).2.2.1; replace e3 := (box5 HY.out).2.2.2.1; replace e4 := (box5 HY.out).2.2.2.2; clear hb)
        | (go_at_call 29; refine (c4 _ HB.out).out.mono ?_; rintro e w2 ⟨rfl, hb⟩; replace HB := Lib.hid (HB.out.trans (hb.mono HB.out.size)); replace HX := Lib.hid (kept3 HX.out hb); replace HY := Lib.hid (kept3 HY.out hb); replace d1 := (box5 HX.out).2.1; replace d2 := (box5 HX.out).2.2.1; replace d3 := (box5 HX.out).2.2.2.1; replace d4 := (box5 HX.out).2.2.2.2; replace e1 := (box5 HY.out).2.1; replace e2 := (box5 HY.out).2.2.1; replace e3 := (box5 HY.out).2.2.2.1; replace e4 := (box5 HY.out).2.2.2.2; clear hb))
      go_ret
      exact ⟨⟨false, rfl, HP.out false (by simp)⟩, HB.out⟩
    | true =>
      cases b3 with
      | false =>
        go_wp2_with (first
          | (go_at_call 13; refine (c1 _ HB.out).out.mono ?_; rintro e w2 ⟨rfl, hb⟩; replace HB := Lib.hid (HB.out.trans (hb.mono HB.out.size)); replace HX := Lib.hid (kept3 HX.out hb); replace HY := Lib.hid (kept3 HY.out hb); replace d1 := (box5 HX.out).2.1; replace d2 := (box5 HX.out).2.2.1; replace d3 := (box5 HX.out).2.2.2.1; replace d4 := (box5 HX.out).2.2.2.2; replace e1 := (box5 HY.out).2.1; replace e2 := (box5 HY.out).2.2.1; replace e3 := (box5 HY.out).2.2.2.1; replace e4 := (box5 HY.out).2.2.2.2; clear hb)
          | (go_at_call 27; refine (c2 _ HB.out).out.mono ?_; rintro e w2 ⟨rfl, hb⟩; replace HB := Lib.hid (HB.out.trans (hb.mono HB.out.size)); replace HX := Lib.hid (kept3 HX.out hb); replace HY := Lib.hid (kept3 HY.out hb); replace d1 := (box5 HX.out).2.1; replace d2 := (box5 HX.out).2.2.1; replace d3 := (box5 HX.out).2.2.2.1; replace d4 := (box5 HX.out).2.2.2.2; replace e1 := (box5 HY.out).2.1; replace e2 := (box5 HY.out).2.2.1; replace e3 := (box5 HY.out).2.2.2.1; replace e4 := (box5 HY.out).2.2.2.2; clear hb)
          | (go_at_call 28; refine (c3 _ HB.out).out.mono ?_; rintro e w2 ⟨rfl, hb⟩; replace HB := Lib.hid (HB.out.trans (hb.mono HB.out.size)); replace HX := Lib.hid (kept3 HX.out hb); replace HY := Lib.hid (kept3 HY.out hb); replace d1 := (box5 HX.out).2.1; replace d2 := (box5 HX.out).2.2.1; replace d3 := (box5 HX.out).2.2.2.1; replace d4 := (box5 HX.out).2.2.2.2; replace e1 := (box5 HY.out).2.1; replace e2 := (box5 HY.out).2.2.1; replace e3 := (box5 HY.out).2.2.2.1; replace e4 := (box5 HY.out).2.2.2.2; clear hb)
          | (go_at_call 29; refine (c4 _ HB.out).out.mono ?_; rintro e w2 ⟨rfl, hb⟩; replace HB := Lib.hid (HB.out.trans (hb.mono HB.out.size)); replace HX := Lib.hid (kept3 HX.out hb); replace HY := Lib.hid (kept3 HY.out hb); replace d1 := (box5 HX.out).2.1; replace d2 := (box5 HX.out).2.2.1; replace d3 := (box5 HX.out).2.2.2.1; replace d4 := (box5 HX.out).2.2.2.2; replace e1 := (box5 HY.out).2.1; replace e2 := (box5 HY.out).2.2.1; replace e3 := (box5 HY.out).2.2.2.1; replace e4 := (box5 HY.out).2.2.2.2; clear hb))
        go_ret
        exact ⟨⟨false, rfl, HP.out false (by simp)⟩, HB.out⟩
      | true =>
        go_wp2_with (first
          | (go_at_call 13; refine (c1 _ HB.out).out.mono ?_; rintro e w2 ⟨rfl, hb⟩; replace HB := Lib.hid (HB.out.trans (hb.mono HB.out.size)); replace HX := Lib.hid (kept3 HX.out hb); replace HY := Lib.hid (kept3 HY.out hb); replace d1 := (box5 HX.out).2.1; replace d2 := (box5 HX.out).2.2.1; replace d3 := (box5 HX.out).2.2.2.1; replace d4 := (box5 HX.out).2.2.2.2; replace e1 := (box5 HY.out).2.1; replace e2 := (box5 HY.out).2.2.1; replace e3 := (box5 HY.out).2.2.2.1; replace e4 := (box5 HY.out).2.2.2.2; clear hb)
          | (go_at_call 27; refine (c2 _ HB.out).out.mono ?_; rintro e w2 ⟨rfl, hb⟩; replace HB := Lib.hid (HB.out.trans (hb.mono HB.out.size)); replace HX := Lib.hid (kept3 HX.out hb); replace HY := Lib.hid (kept3 HY.out hb); replace d1 := (box5 HX.out).2.1; replace d2 := (box5 HX.out).2.2.1; replace d3 := (box5 HX.out).2.2.2.1; replace d4 := (box5 HX.out).2.2.2.2; replace e1 := (box5 HY.out).2.1; replace e2 := (box5 HY.out).2.2.1; replace e3 := (box5 HY.out).2.2.2.1; replace e4 := (box5 HY.out).2.2.2.2; clear hb)
          | (go_at_call 28; refine (c3 _ HB.out).out.mono ?_; rintro e w2 ⟨rfl, hb⟩; replace HB := Lib.hid (HB.out.trans (hb.mono HB.out.size)); replace HX := Lib.hid (kept3 HX.out hb); replace HY := Lib.hid (kept3 HY.out hb); replace d1 := (box5 HX.out).2.1; replace d2 := (box5 HX.out).2.2.1; replace d3 := (box5 HX.out).2.2.2.1; replace d4 := (box5 HX.out).2.2.2.2; replace e1 := (box5 HY.out).2.1; replace e2 := (box5 HY.out).2.2.1; replace e3 := (box5 HY.out).2.2.2.1; replace e4 := (box5 HY.out).2.2.2.2; clear hb)
          | (go_at_call 29; refine (c4 _ HB.out).out.mono ?_; rintro e w2 ⟨rfl, hb⟩; replace HB := Lib.hid (HB.out.trans (hb.mono HB.out.size)); replace HX := Lib.hid (kept3 HX.out hb); replace HY := Lib.hid (kept3 HY.out hb); replace d1 := (box5 HX.out).2.1; replace d2 := (box5 HX.out).2.2.1; replace d3 := (box5 HX.out).2.2.2.1; replace d4 := (box5 HX.out).2.2.2.2; replace e1 := (box5 HY.out).2.1; replace e2 := (box5 HY.out).2.2.1; replace e3 := (box5 HY.out).2.2.2.1; replace e4 := (box5 HY.out).2.2.2.2; clear hb))
        go_ret
        exact ⟨⟨b4, rfl, HP.out b4 (by simp)⟩, HB.out⟩
end No
end Go.Proofs.Ytohnllclkpflaaa

namespace Go.Proofs.Ytohnllclkpflaaa
namespace Bu
open Lx
/-- keys rise, said of any two -/
abbrev Ri (L : List Mg) : Prop := L.Pairwise fun a b => cmpB a.1 b.1 < 0
theorem rise_iff {L : List Mg} : Rise L ↔ Ri L := by
  constructor
  · intro h
    induction L with
    | nil => exact .nil
    | cons x xs ih =>
      have ih := ih fun i a b ha hb => h (i + 1) a b (by simpa using ha) (by simpa using hb)
      refine List.pairwise_cons.2 ⟨?_, ih⟩
      cases xs with
      | nil => intro a ha; cases ha
      | cons y ys =>
        have h0 := h 0 x y rfl rfl
        intro a ha
        rcases List.mem_cons.1 ha with rfl | ha
        · exact h0
        · exact cmpB_trans h0 ((List.pairwise_cons.1 ih).1 a ha)
  · intro h i a b ha hb
    obtain ⟨h1, e1⟩ := List.getElem?_eq_some_iff.1 ha
    obtain ⟨h2, e2⟩ := List.getElem?_eq_some_iff.1 hb
    subst e1 e2
    exact List.pairwise_iff_getElem.1 h i (i + 1) h1 h2 (by omega)
theorem Ri.ne {L : List Mg} (h : Ri L) : L.Pairwise fun a b => a.1 ≠ b.1 := List.pairwise_iff_getElem.2 fun i j hi hj hij => cmpB_ne (List.pairwise_iff_getElem.1 h i j hi hj hij)
end Bu
end Go.Proofs.Ytohnllclkpflaaa

namespace Go.Proofs.Ytohnllclkpflaaa
namespace Lf
open Lx Bu
/-- keys rise, said of any two -/
abbrev PRi (L : List Pr) : Prop := L.Pairwise fun a b => cmpB a.1 b.1 < 0
theorem prise_iff {L : List Pr} : PRise L ↔ PRi L := by
  constructor
  · intro h
    induction L with
    | nil => exact .nil
    | cons x xs ih =>
      have ih := ih fun i a b ha hb => h (i + 1) a b (by simpa using ha) (by simpa using hb)
      refine List.pairwise_cons.2 ⟨?_, ih⟩
      cases xs with
      | nil => intro a ha; cases ha
      | cons y ys =>
        have h0 := h 0 x y rfl rfl
        intro a ha
        rcases List.mem_cons.1 ha with rfl | ha
        · exact h0
        · exact cmpB_trans h0 ((List.pairwise_cons.1 ih).1 a ha)
  · intro h i a b ha hb
    obtain ⟨h1, e1⟩ := List.getElem?_eq_some_iff.1 ha
    obtain ⟨h2, e2⟩ := List.getElem?_eq_some_iff.1 hb
    subst e1 e2
    exact List.pairwise_iff_getElem.1 h i (i + 1) h1 h2 (by omega)
theorem PRi.at_ {L : List Pr} (h : PRi L) {i j : Nat} {x y : Pr} (hx : L[i]? = some x) (hy : L[j]? = some y) (hij : i < j) : cmpB x.1 y.1 < 0 := by
  obtain ⟨h1, e1⟩ := List.getElem?_eq_some_iff.1 hx
  obtain ⟨h2, e2⟩ := List.getElem?_eq_some_iff.1 hy
  subst e1 e2
  exact List.pairwise_iff_getElem.1 h i j h1 h2 hij
/-- the first half, the others, the pivot, whether there are any -/
def halfP (L : List Pr) : List Pr × List Pr × ByteArray × Bool :=
  match L[(L.length + 1) / 2 - 1]?, L[(L.length + 1) / 2]? with
  | some x, some y => (L.take ((L.length + 1) / 2), L.drop ((L.length + 1) / 2), (cutB x.1 y.1).1, true)
  | _, _ => ([], [], ⟨#[]⟩, false)
theorem halfP_few {L : List Pr} (h : L.length < 2) : halfP L = ([], [], ⟨#[]⟩, false) := by
  unfold halfP
  rw [List.getElem?_eq_none (l := L) (i := (L.length + 1) / 2) (by omega)]
  split
  · rename_i h2
    cases h2
  · rfl
theorem halfP_some {L : List Pr} {x y : Pr} (hx : L[(L.length + 1) / 2 - 1]? = some x) (hy : L[(L.length + 1) / 2]? = some y) : halfP L = (L.take ((L.length + 1) / 2), L.drop ((L.length + 1) / 2), (cutB x.1 y.1).1, true) := by
  unfold halfP
  rw [hx, hy]
/-- a cut is behind the one, not behind the other -/
theorem cutB_mid {a b : ByteArray} (h : cmpB a b < 0) : cmpB a (cutB a b).1 < 0 ∧ cmpB (cutB a b).1 b ≤ 0 := by
  rw [cutB_some (by omega)]
  refine ⟨?_, ?_⟩
  · have := cmp_take_cut a.data.toList b.data.toList h
    unfold cmpB
    rw [extract_list]
    exact this
  · have : ∀ (k : Nat) (l : List UInt8), Lib.compareBytes (l.take k) l ≤ 0 := by
      intro k
      induction k with
      | zero => intro l; cases l <;> simp [Lib.compareBytes]
      | succ k ih =>
        intro l
        cases l with
        | nil => simp [Lib.compareBytes]
        | cons z l =>
          rw [List.take_succ_cons, cmp_cons_eq]
          exact ih l
    unfold cmpB
    rw [extract_list]
    exact this _ _
end Lf
end Go.Proofs.Ytohnllclkpflaaa
namespace Go.Proofs.Ytohnllclkpflaaa
open Go.RowKit
namespace Lf
open Mem Lx Bu
theorem run_cutP (A : Option Addr) (n c m : Nat) (hk : m ≤ n) (w : World) : (Instr.slice 29 (.slice A n c) (some (.int .i64 (m : Int))) none none).run Try.prog w = .ok (.slice (cutK 2 A c m) (n - m) (c - m)) w := run_cutK Try.underlying29 prinfo A n c m hk w
theorem run_upToP (A : Option Addr) (n c m : Nat) (hk : m ≤ c) (w : World) : (Instr.slice 29 (.slice A n c) none (some (.int .i64 (m : Int))) none).run Try.prog w = .ok (.slice A m c) w := run_upToK Try.underlying29 prinfo A n c m hk w
end Lf
end Go.Proofs.Ytohnllclkpflaaa

namespace Go.Proofs.Ytohnllclkpflaaa
open Go.RowKit
namespace No
open Mem Lx Bu Lf Fa
def zeroN : Nd := ⟨0, [], [], [], []⟩
/-- messages ahead of a key -/
def belowM (p : ByteArray) (B : List Mg) : List Mg := B.filter fun m => decide (cmpB m.1 p < 0)
/-- the others -/
def restM (p : ByteArray) (B : List Mg) : List Mg := B.filter fun m => !decide (cmpB m.1 p < 0)
/-- its halves, the pivot between them, and whether there are any -/
def halfN (n : Nd) : Nd × Nd × ByteArray × Bool :=
  if n.lv = 0 then (⟨0, [], [], [], (halfP n.prs).1⟩, ⟨0, [], [], [], (halfP n.prs).2.1⟩, (halfP n.prs).2.2.1, (halfP n.prs).2.2.2)
  else if n.kids.length < 2 then (zeroN, zeroN, ⟨#[]⟩, false)
  else (⟨n.lv, n.kids.take ((n.kids.length + 1) / 2), n.piv.take ((n.kids.length + 1) / 2 - 1), belowM (n.piv.getD ((n.kids.length + 1) / 2 - 1) ⟨#[]⟩) n.buf, []⟩,
    ⟨n.lv, n.kids.drop ((n.kids.length + 1) / 2), n.piv.drop ((n.kids.length + 1) / 2), restM (n.piv.getD ((n.kids.length + 1) / 2 - 1) ⟨#[]⟩) n.buf, []⟩,
    n.piv.getD ((n.kids.length + 1) / 2 - 1) ⟨#[]⟩, true)
/-- two joined -/
def joinN (a : Nd) (p : ByteArray) (b : Nd) : Nd × Bool :=
  if a.lv ≠ b.lv then (zeroN, false)
  else (⟨a.lv, a.kids ++ b.kids, if 0 < a.lv then a.piv ++ [p] ++ b.piv else [], a.buf ++ b.buf, a.prs ++ b.prs⟩, true)
def fitsN (c : Cfg) (a b : Nd) : Bool :=
  decide (a.lv = b.lv) && (if a.lv = 0 then decide (2 * ((a.prs.length : Int) + b.prs.length) ≤ c.leaf) else decide (2 * ((a.kids.length : Int) + b.kids.length) ≤ c.fan) && decide ((a.buf.length : Int) + b.buf.length ≤ c.buffer))
/-- what a node has by its Level -/
structure Form (n : Nd) : Prop where
  leaf : n.lv = 0 → n.kids = [] ∧ n.piv = [] ∧ n.buf = []
  inner : n.lv ≠ 0 → 0 < n.lv ∧ n.prs = []
theorem nil_of {α : Type} {l : List α} (h : l.length = 0) : l = [] := List.length_eq_zero_iff.1 h
theorem RightN.form {c : Cfg} {lo hi : ByteArray} {top : Bool} {n : Nd} (h : RightN c lo hi top n) : Form n := ⟨fun e => ⟨nil_of (h.1 e).kids, nil_of (h.1 e).piv, nil_of (h.1 e).buf⟩, fun e => ⟨(h.2 e).1, nil_of (h.2 e).2.prs⟩⟩
/-! ### messages about a key -/
theorem below_rest {p : ByteArray} : ∀ {B : List Mg}, Ri B → belowM p B ++ restM p B = B
  | [], _ => rfl
  | m :: B, h => by
    obtain ⟨h1, h2⟩ := List.pairwise_cons.1 h
    by_cases hm : cmpB m.1 p < 0
    · have := below_rest (p := p) h2
      unfold belowM restM at this ⊢
      rw [List.filter_cons_of_pos (by simpa using hm), List.filter_cons_of_neg (by simpa using hm), List.cons_append, this]
    · have e : belowM p B = [] := List.filter_eq_nil_iff.2 fun x hx => by
        have h3 := h1 x hx
        simp only [decide_eq_true_eq]
        intro h4
        exact hm (cmpB_trans h3 h4)
      have := below_rest (p := p) h2
      rw [e, List.nil_append] at this
      have e2 : belowM p (m :: B) = [] := by
        unfold belowM at e ⊢
        rw [List.filter_cons_of_neg (by simpa using hm), e]
      rw [e2, List.nil_append]
      unfold restM at this ⊢
      rw [List.filter_cons_of_pos (by simpa using hm), this]
theorem below_sub (p : ByteArray) (B : List Mg) : (belowM p B).Sublist B := List.filter_sublist
theorem rest_sub (p : ByteArray) (B : List Mg) : (restM p B).Sublist B := List.filter_sublist
theorem below_at {p : ByteArray} {B : List Mg} {q : Nat} (h1 : ∀ (i : Nat) (m : Mg), i < q → B[i]? = some m → cmpB m.1 p < 0) (h2 : ∀ (i : Nat) (m : Mg), q ≤ i → B[i]? = some m → 0 ≤ cmpB m.1 p) : belowM p B = B.take q ∧ restM p B = B.drop q := by
  have e : B = B.take q ++ B.drop q := (List.take_append_drop q B).symm
  have a1 : ∀ m, m ∈ B.take q → cmpB m.1 p < 0 := fun m hm => by
    obtain ⟨i, hi⟩ := List.getElem?_of_mem hm
    rw [List.getElem?_take] at hi
    split at hi
    · exact h1 i m (by assumption) hi
    · cases hi
  have a2 : ∀ m, m ∈ B.drop q → ¬ cmpB m.1 p < 0 := fun m hm => by
    obtain ⟨i, hi⟩ := List.getElem?_of_mem hm
    rw [List.getElem?_drop] at hi
    have := h2 (q + i) m (by omega) hi
    omega
  constructor
  · have : belowM p B = belowM p (B.take q ++ B.drop q) := by rw [← e]
    rw [this]
    unfold belowM
    rw [List.filter_append, List.filter_eq_self.2 (fun m hm => by simpa using a1 m hm), List.filter_eq_nil_iff.2 (fun m hm => by simpa using a2 m hm), List.append_nil]
  · have : restM p B = restM p (B.take q ++ B.drop q) := by rw [← e]
    rw [this]
    unfold restM
    rw [List.filter_append, List.filter_eq_nil_iff.2 (fun m hm => by simpa using a1 m hm), List.filter_eq_self.2 (fun m hm => by simpa using a2 m hm), List.nil_append]
/-! ### the halves' pivot -/
theorem halfP_at {L : List Pr} (h : 2 ≤ L.length) : ∃ x y, L[(L.length + 1) / 2 - 1]? = some x ∧ L[(L.length + 1) / 2]? = some y ∧ halfP L = (L.take ((L.length + 1) / 2), L.drop ((L.length + 1) / 2), (cutB x.1 y.1).1, true) := by
  have h1 : (L.length + 1) / 2 - 1 < L.length := by omega
  have h2 : (L.length + 1) / 2 < L.length := by omega
  exact ⟨_, _, List.getElem?_eq_getElem h1, List.getElem?_eq_getElem h2, halfP_some (List.getElem?_eq_getElem h1) (List.getElem?_eq_getElem h2)⟩
theorem cutB_size (a b : ByteArray) : (cutB a b).1.size ≤ b.size := by
  by_cases h : 0 ≤ cmpB a b
  · rw [cutB_none h]
    exact Nat.zero_le _
  · rw [cutB_some h]
    simp only [ByteArray.size_extract]
    omega
theorem size_pos {a b : ByteArray} (h : cmpB a b < 0) : 1 ≤ b.size := by
  rcases Nat.eq_zero_or_pos b.size with h0 | h0
  · exfalso
    have hb : b.data.toList = [] := List.length_eq_zero_iff.1 (by rw [len_eq]; exact h0)
    have h1 : cmpB a b = -cmpB b a := cmpB_neg a b
    have h2 : cmpB b a ≤ 0 := by
      unfold cmpB
      rw [hb]
      unfold Lib.compareBytes
      split <;> simp_all
    omega
  · exact h0
theorem cmp_le_lt {a b c : ByteArray} (h : cmpB a b ≤ 0) (k : cmpB b c < 0) : cmpB a c < 0 := cmp_trans_le_lt h k
theorem cmp_lt_le {a b c : ByteArray} (h : cmpB a b < 0) (k : cmpB b c ≤ 0) : cmpB a c < 0 := cmp_trans_lt_le h k
theorem cmp_le_le {a b c : ByteArray} (h : cmpB a b ≤ 0) (k : cmpB b c ≤ 0) : cmpB a c ≤ 0 := cmp_trans_le h k
theorem in_iff {lo hi : ByteArray} {top : Bool} {k : ByteArray} : inB lo hi top k = true ↔ cmpB lo k ≤ 0 ∧ (top = true ∨ cmpB k hi < 0) := by
  unfold inB
  simp
end No
end Go.Proofs.Ytohnllclkpflaaa

namespace Go.Proofs.Ytohnllclkpflaaa
open Go.RowKit
namespace No
open Mem Bu
/-- five cells stored -/
def set5 (w : World) (b : Nat) (v0 v1 v2 v3 v4 : Value) : World := ((((w.setCell ⟨b, 0, none⟩ v0).setCell ⟨b, 1, none⟩ v1).setCell ⟨b, 2, none⟩ v2).setCell ⟨b, 3, none⟩ v3).setCell ⟨b, 4, none⟩ v4
theorem set5_at {w : World} {b : Nat} {u0 u1 u2 u3 u4 : Value} {U : TypeId} (h : w.heap[b]? = some (.cells #[u0, u1, u2, u3, u4] U (0, 0))) (v0 v1 v2 v3 v4 : Value) : (set5 w b v0 v1 v2 v3 v4).heap[b]? = some (.cells #[v0, v1, v2, v3, v4] U (0, 0)) := by
  unfold set5
  simp [World.setCell, Array.getElem?_modify, h]
theorem set5_other {w : World} {b k : Nat} (v0 v1 v2 v3 v4 : Value) (hk : k ≠ b) : (set5 w b v0 v1 v2 v3 v4).heap[k]? = w.heap[k]? := by
  unfold set5
  rw [set_other _ hk, set_other _ hk, set_other _ hk, set_other _ hk, set_other _ hk]
theorem set5_below {B b : Nat} {a w : World} (h : Below B a w) (hb : B ≤ b) (v0 v1 v2 v3 v4 : Value) : Below B a (set5 w b v0 v1 v2 v3 v4) := ((((h.setCell hb v0).setCell hb v1).setCell hb v2).setCell hb v3).setCell hb v4
theorem into_one (w : World) (b i : Nat) (v : Value) : Flow.Into [b] w (w.setCell ⟨b, i, none⟩ v) := ⟨rfl, rfl, rfl, Nat.le_of_eq (by simp), fun k _ hn => set_other _ (by simpa using hn)⟩
theorem into_set5 (w : World) (b : Nat) (v0 v1 v2 v3 v4 : Value) : Flow.Into [b] w (set5 w b v0 v1 v2 v3 v4) := ((((into_one _ _ _ _).trans (into_one _ _ _ _)).trans (into_one _ _ _ _)).trans (into_one _ _ _ _)).trans (into_one _ _ _ _)
/-- a cell stored that holds the same -/
theorem set_same {w : World} {b i : Nat} {v : Value} (h : w.cell? ⟨b, i, none⟩ = some v) : w.setCell ⟨b, i, none⟩ v = w := by
  unfold World.setCell
  have e : ∀ f : Obj → Obj, (∀ o, w.heap[b]? = some o → f o = o) → w.heap.modify b f = w.heap := fun f hf => by
    refine Array.ext_getElem? fun k => ?_
    rw [Array.getElem?_modify]
    split
    · rename_i hk
      subst hk
      cases ho : w.heap[b]? with
      | none => rfl
      | some o => rw [Option.map_some, hf o ho]
    · rfl
  rw [e]
  intro o ho
  unfold World.cell? at h
  rw [ho] at h
  cases o with
  | cells c T f =>
    simp only [Option.isSome_none, Bool.false_eq_true, if_false] at h ⊢
    congr 1
    refine Array.ext_getElem? fun k => ?_
    rw [Array.getElem?_setIfInBounds]
    split
    · rename_i hk
      subst hk
      have := (Array.getElem?_eq_some_iff.1 h).1
      rw [if_pos this, h]
    · rfl
  | _ => rfl
theorem set5_same {w : World} {b : Nat} {u0 u1 u2 u3 u4 : Value} {U : TypeId} (h : w.heap[b]? = some (.cells #[u0, u1, u2, u3, u4] U (0, 0))) : set5 w b u0 u1 u2 u3 u4 = w := by
  have c : ∀ i v, #[u0, u1, u2, u3, u4][i]? = some v → w.setCell ⟨b, i, none⟩ v = w := fun i v hv => set_same (by simpa [World.cell?, h] using hv)
  unfold set5
  rw [c 0 u0 rfl, c 1 u1 rfl, c 2 u2 rfl, c 3 u3 rfl, c 4 u4 rfl]
theorem free5 {w : World} {b : Nat} {C : Array Value} {U : TypeId} (h : w.heap[b]? = some (.cells C U (0, 0))) (i : Nat) : w.frozen? ⟨b, i, none⟩ = false := by
  simp [World.frozen?, h]
end No
end Go.Proofs.Ytohnllclkpflaaa

namespace Go.Proofs.Ytohnllclkpflaaa
open Go.RowKit
namespace No
open Mem Lx Bu Lf Fa
theorem B3.set5y {W : World} {g : Nat} {X Z : Obj} {u0 u1 u2 u3 u4 : Value} {U : TypeId} {w : World} (h : B3 W g X (.cells #[u0, u1, u2, u3, u4] U (0, 0)) Z w) (v0 v1 v2 v3 v4 : Value) : B3 W g X (.cells #[v0, v1, v2, v3, v4] U (0, 0)) Z (set5 w (g + 1) v0 v1 v2 v3 v4) :=
  ⟨set5_below h.below (Nat.le_trans h.at_ (by omega)) _ _ _ _ _, h.at_, (set5_other _ _ _ _ _ (by omega)).trans h.x, set5_at h.y _ _ _ _ _, (set5_other _ _ _ _ _ (by omega)).trans h.z⟩
theorem B3.set5z {W : World} {g : Nat} {X Y : Obj} {u0 u1 u2 u3 u4 : Value} {U : TypeId} {w : World} (h : B3 W g X Y (.cells #[u0, u1, u2, u3, u4] U (0, 0)) w) (v0 v1 v2 v3 v4 : Value) : B3 W g X Y (.cells #[v0, v1, v2, v3, v4] U (0, 0)) (set5 w (g + 1 + 1) v0 v1 v2 v3 v4) :=
  ⟨set5_below h.below (Nat.le_trans h.at_ (by omega)) _ _ _ _ _, h.at_, (set5_other _ _ _ _ _ (by omega)).trans h.x, (set5_other _ _ _ _ _ (by omega)).trans h.y, set5_at h.z _ _ _ _ _⟩
theorem B3.sety4 {W : World} {g : Nat} {X Z : Obj} {u0 u1 u2 u3 u4 : Value} {U : TypeId} {w : World} (h : B3 W g X (.cells #[u0, u1, u2, u3, u4] U (0, 0)) Z w) (v : Value) : B3 W g X (.cells #[u0, u1, u2, u3, v] U (0, 0)) Z (w.setCell ⟨g + 1, 4, none⟩ v) :=
  ⟨h.below.setCell (Nat.le_trans h.at_ (show g ≤ g + 1 by omega)) _, h.at_, (set_other _ (by omega)).trans h.x, by simp [World.setCell, Array.getElem?_modify, h.y], (set_other _ (by omega)).trans h.z⟩
theorem B3.setz4 {W : World} {g : Nat} {X Y : Obj} {u0 u1 u2 u3 u4 : Value} {U : TypeId} {w : World} (h : B3 W g X Y (.cells #[u0, u1, u2, u3, u4] U (0, 0)) w) (v : Value) : B3 W g X Y (.cells #[u0, u1, u2, u3, v] U (0, 0)) (w.setCell ⟨g + 1 + 1, 4, none⟩ v) :=
  ⟨h.below.setCell (Nat.le_trans h.at_ (show g ≤ g + 1 + 1 by omega)) _, h.at_, (set_other _ (by omega)).trans h.x, (set_other _ (by omega)).trans h.y, by simp [World.setCell, Array.getElem?_modify, h.z]⟩
theorem B3.lt {W : World} {g : Nat} {X Y Z : Obj} {w : World} (h : B3 W g X Y Z w) : g + 1 + 1 < w.heap.size := (Array.getElem?_eq_some_iff.1 h.z).1
set_option maxRecDepth 100000 in
theorem isLeaf_any (lv : Int) (A0 A1 A2 A3 : Option Addr) (n0 c0 n1 c1 n2 c2 n3 c3 : Nat) (W : World) : Calls Try.prog 22 #[.agg #[.int .i64 lv, .slice A0 n0 c0, .slice A1 n1 c1, .slice A2 n2 c2, .slice A3 n3 c3]] W fun e w' => e = .returned (.bool (decide (lv = 0))) ∧ Below W.heap.size W w' := by
  have hb : Below W.heap.size W (W.alloc (.cells #[.int .i64 lv, .slice A0 n0 c0, .slice A1 n1 c1, .slice A2 n2 c2, .slice A3 n3 c3] 31)) := (Below.refl _ _).alloc (Nat.le_refl _) _
  have HB := Lib.hid hb
  clear hb
  by_cases h : lv = 0
  · subst h
    go_enter Try.func22, Try.ntmps22
    go_wp2_with fail
    go_ret
    exact ⟨rfl, HB.out⟩
  · have hd : (lv == 0) = false := by simpa using h
    have HR : Hid (decide (lv = 0) = false) := by simpa [Hid] using h
    clear h
    go_enter Try.func22, Try.ntmps22
    go_wp2_with fail
    go_ret
    exact ⟨by rw [HR.out]; rfl, HB.out⟩
theorem withinHalf_any (m : Nat) (most : Int) (hm : m ≤ 1000) (W : World) : Calls Try.prog 34 #[.int .i64 (m : Int), .int .i64 most] W fun e w' => e = .returned (.bool (decide (2 * (m : Int) ≤ most))) ∧ Below W.heap.size W w' := by
  obtain ⟨k, hk⟩ : ∃ k, k = 2 * m := ⟨_, rfl⟩
  have hw : IntKind.i64.wrap (2 * (m : Int)) = (k : Int) := by rw [IntKind.wrap_i64]; omega
  have HR : Hid (decide (2 * (m : Int) ≤ most) = decide ((k : Int) ≤ most)) := by unfold Hid; rw [hk]; rfl
  clear hk hm
  go_enter Try.func34, Try.ntmps34
  go_wp2_with fail
  go_ret
  exact ⟨by rw [HR.out]; rfl, Below.refl _ _⟩
/-- three boxes of a call that takes settings and two nodes -/
def ndV (lv : Int) (A0 A1 A2 A3 : Option Addr) (n0 c0 n1 c1 n2 c2 n3 c3 : Nat) : Array Value := #[.int .i64 lv, .slice A0 n0 c0, .slice A1 n1 c1, .slice A2 n2 c2, .slice A3 n3 c3]
set_option maxRecDepth 100000 in
set_option maxHeartbeats 4000000 in
theorem Fits_any (c : Cfg) {a b : Nd} (x y : At) (fa : Fit a) (fb : Fit b) (W : World) : Calls Try.prog 15 #[.agg (cfCs c), .agg (ndCs a x), .agg (ndCs b y)] W fun e w' => e = .returned (.bool (fitsN c a b)) ∧ Below W.heap.size W w' := by
  have k1 := fa.kids
  have k2 := fa.buf
  have k3 := fa.prs
  have l1 := fb.kids
  have l2 := fb.buf
  have l3 := fb.prs
  have HR : Hid (fitsN c a b = (decide (a.lv = b.lv) && (if a.lv = 0 then decide (2 * ((a.prs.length : Int) + b.prs.length) ≤ c.leaf) else decide (2 * ((a.kids.length : Int) + b.kids.length) ≤ c.fan) && decide ((a.buf.length : Int) + b.buf.length ≤ c.buffer)))) := rfl
  generalize fitsN c a b = r at *
  clear fa fb
  obtain ⟨cB, cY, cF, cN, cU, cL, cK, cV⟩ := c
  obtain ⟨lv, K, P, B, Q⟩ := a
  obtain ⟨lv', K', P', B', Q'⟩ := b
  obtain ⟨kA, kc, pA, pc, bA, bc, qA, qc⟩ := x
  obtain ⟨kA', kc', pA', pc', bA', bc', qA', qc'⟩ := y
  unfold cfCs ndCs
  simp only at *
  generalize K.length = kn at *
  generalize P.length = pn at *
  generalize B.length = bn at *
  generalize Q.length = qn at *
  generalize K'.length = kn' at *
  generalize P'.length = pn' at *
  generalize B'.length = bn' at *
  generalize Q'.length = qn' at *
  go_enter Try.func15, Try.ntmps15
  go_upto_region 1 with fail
  have HB := Lib.hid (B3.new W (.cells #[.int .i64 cB, .int .i64 cY, .int .i64 cF, .int .i64 cN, .int .i64 cU, .int .i64 cL, .int .i64 cK, .int .i64 cV] 23) (.cells #[.int .i64 lv, .slice kA kn kc, .slice pA pn pc, .slice bA bn bc, .slice qA qn qc] 31) (.cells #[.int .i64 lv', .slice kA' kn' kc', .slice pA' pn' pc', .slice bA' bn' bc', .slice qA' qn' qc'] 31))
  generalize ((W.alloc (.cells #[.int .i64 cB, .int .i64 cY, .int .i64 cF, .int .i64 cN, .int .i64 cU, .int .i64 cL, .int .i64 cK, .int .i64 cV] 23)).alloc (.cells #[.int .i64 lv, .slice kA kn kc, .slice pA pn pc, .slice bA bn bc, .slice qA qn qc] 31)).alloc (.cells #[.int .i64 lv', .slice kA' kn' kc', .slice pA' pn' pc', .slice bA' bn' bc', .slice qA' qn' qc'] 31) = w1 at *
  obtain ⟨g, hg⟩ : ∃ g, g = W.heap.size := ⟨_, rfl⟩
  rw [← hg] at HB
  simp only [← hg]
  clear hg
  obtain ⟨e0, e1, e2, e3, e4⟩ := box5 HB.out.y
  obtain ⟨d0, d1, d2, d3, d4⟩ := box5 HB.out.z
  by_cases hl : lv = lv'
  case neg =>
    have hd : (lv != lv') = true := by simpa using hl
    have HR2 : Hid (r = false) := by unfold Hid; rw [HR.out, decide_eq_false hl, Bool.false_and]
    clear hl HR
    go_wp2_with fail
    go_ret
    exact ⟨by rw [HR2.out]; rfl, HB.out.below⟩
  subst hl
  by_cases h0 : lv = 0
  · subst h0
    have HR2 : Hid (r = decide (2 * (((qn + qn' : Nat)) : Int) ≤ cL)) := by unfold Hid; rw [HR.out, decide_eq_true rfl, Bool.true_and, if_pos rfl]; norm_cast
    have hw : IntKind.i64.wrap ((qn : Int) + (qn' : Int)) = ((qn + qn' : Nat) : Int) := by rw [IntKind.wrap_i64]; omega
    have cW := fun w => Lib.hid (withinHalf_any (qn + qn') cL (by omega) w)
    generalize qn + qn' = q at *
    generalize decide (2 * (q : Int) ≤ cL) = t at *
    clear HR
    go_wp2_with (first | (go_at_call 22; refine (isLeaf_any _ _ _ _ _ _ _ _ _ _ _ _ _ _).mono ?_; rintro e w2 ⟨rfl, hb⟩; replace HB := Lib.hid (HB.out.kept hb); clear hb e0 e1 e2 e3 e4 d0 d1 d2 d3 d4; obtain ⟨e0, e1, e2, e3, e4⟩ := box5 HB.out.y; obtain ⟨d0, d1, d2, d3, d4⟩ := box5 HB.out.z; obtain ⟨g0, g1, g2, g3, g4, g5, g6, g7⟩ := box8 HB.out.x) | (go_at_call 34; refine (cW _).out.mono ?_; rintro e w3 ⟨rfl, hb⟩; replace HB := Lib.hid (HB.out.kept hb); clear hb e0 e1 e2 e3 e4 d0 d1 d2 d3 d4 g0 g1 g2 g3 g4 g5 g6 g7; obtain ⟨e0, e1, e2, e3, e4⟩ := box5 HB.out.y; obtain ⟨d0, d1, d2, d3, d4⟩ := box5 HB.out.z; obtain ⟨g0, g1, g2, g3, g4, g5, g6, g7⟩ := box8 HB.out.x))
    go_ret
    exact ⟨by rw [HR2.out]; rfl, HB.out.below⟩
  · have HR2 : Hid (r = (decide (2 * (((kn + kn' : Nat)) : Int) ≤ cN) && decide (((bn + bn' : Nat) : Int) ≤ cU))) := by unfold Hid; rw [HR.out, decide_eq_true rfl, Bool.true_and, if_neg h0]; norm_cast
    have hw : IntKind.i64.wrap ((kn : Int) + (kn' : Int)) = ((kn + kn' : Nat) : Int) := by rw [IntKind.wrap_i64]; omega
    have hw2 : IntKind.i64.wrap ((bn : Int) + (bn' : Int)) = ((bn + bn' : Nat) : Int) := by rw [IntKind.wrap_i64]; omega
    have cW := fun w => Lib.hid (withinHalf_any (kn + kn') cN (by omega) w)
    have hd0 : decide (lv = 0) = false := by simpa using h0
    generalize kn + kn' = q at *
    generalize bn + bn' = u at *
    generalize decide (2 * (q : Int) ≤ cN) = t at *
    clear HR h0
    go_upto_region 5 with (first | (go_at_call 22; refine (isLeaf_any _ _ _ _ _ _ _ _ _ _ _ _ _ _).mono ?_; rintro e w2 ⟨rfl, hb⟩; replace HB := Lib.hid (HB.out.kept hb); clear hb e0 e1 e2 e3 e4 d0 d1 d2 d3 d4; obtain ⟨e0, e1, e2, e3, e4⟩ := box5 HB.out.y; obtain ⟨d0, d1, d2, d3, d4⟩ := box5 HB.out.z; obtain ⟨g0, g1, g2, g3, g4, g5, g6, g7⟩ := box8 HB.out.x) | (go_at_call 34; refine (cW _).out.mono ?_; rintro e w3 ⟨rfl, hb⟩; replace HB := Lib.hid (HB.out.kept hb); clear hb e0 e1 e2 e3 e4 d0 d1 d2 d3 d4 g0 g1 g2 g3 g4 g5 g6 g7; obtain ⟨e0, e1, e2, e3, e4⟩ := box5 HB.out.y; obtain ⟨d0, d1, d2, d3, d4⟩ := box5 HB.out.z; obtain ⟨g0, g1, g2, g3, g4, g5, g6, g7⟩ := box8 HB.out.x))
    cases t with
    | false =>
      go_wp2_with (go_at_call 34; refine (cW _).out.mono ?_; rintro e w3 ⟨rfl, hb⟩; replace HB := Lib.hid (HB.out.kept hb); clear hb e0 e1 e2 e3 e4 d0 d1 d2 d3 d4 g0 g1 g2 g3 g4 g5 g6 g7; obtain ⟨e0, e1, e2, e3, e4⟩ := box5 HB.out.y; obtain ⟨d0, d1, d2, d3, d4⟩ := box5 HB.out.z; obtain ⟨g0, g1, g2, g3, g4, g5, g6, g7⟩ := box8 HB.out.x)
      go_ret
      exact ⟨by rw [HR2.out]; rfl, HB.out.below⟩
    | true =>
      go_wp2_with (go_at_call 34; refine (cW _).out.mono ?_; rintro e w3 ⟨rfl, hb⟩; replace HB := Lib.hid (HB.out.kept hb); clear hb e0 e1 e2 e3 e4 d0 d1 d2 d3 d4 g0 g1 g2 g3 g4 g5 g6 g7; obtain ⟨e0, e1, e2, e3, e4⟩ := box5 HB.out.y; obtain ⟨d0, d1, d2, d3, d4⟩ := box5 HB.out.z; obtain ⟨g0, g1, g2, g3, g4, g5, g6, g7⟩ := box8 HB.out.x)
      go_ret
      exact ⟨by rw [HR2.out]; rfl, HB.out.below⟩
set_option maxRecDepth 100000 in
set_option maxHeartbeats 4000000 in
theorem RFits_any (c : Cfg) {a b : Nd} (x y : At) (fa : Fit a) (fb : Fit b) (W : World) : Calls Try.prog 16 #[.agg (cfCs c), .agg (ndCs a x), .agg (ndCs b y)] W fun e w' => e = .returned (.bool (fitsN c a b)) ∧ Below W.heap.size W w' := by
  have k1 := fa.kids
  have k2 := fa.buf
  have k3 := fa.prs
  have l1 := fb.kids
  have l2 := fb.buf
  have l3 := fb.prs
  have HR : Hid (fitsN c a b = (decide (a.lv = b.lv) && (if a.lv = 0 then decide (2 * ((a.prs.length : Int) + b.prs.length) ≤ c.leaf) else decide (2 * ((a.kids.length : Int) + b.kids.length) ≤ c.fan) && decide ((a.buf.length : Int) + b.buf.length ≤ c.buffer)))) := rfl
  generalize fitsN c a b = r at *
  clear fa fb
  obtain ⟨cB, cY, cF, cN, cU, cL, cK, cV⟩ := c
  obtain ⟨lv, K, P, B, Q⟩ := a
  obtain ⟨lv', K', P', B', Q'⟩ := b
  obtain ⟨kA, kc, pA, pc, bA, bc, qA, qc⟩ := x
  obtain ⟨kA', kc', pA', pc', bA', bc', qA', qc'⟩ := y
  unfold cfCs ndCs
  simp only at *
  generalize K.length = kn at *
  generalize P.length = pn at *
  generalize B.length = bn at *
  generalize Q.length = qn at *
  generalize K'.length = kn' at *
  generalize P'.length = pn' at *
  generalize B'.length = bn' at *
  generalize Q'.length = qn' at *
  go_enter Try.func16, Try.ntmps16
  go_upto_region 1 with fail
  have HB := Lib.hid (B3.new W (.cells #[.int .i64 cB, .int .i64 cY, .int .i64 cF, .int .i64 cN, .int .i64 cU, .int .i64 cL, .int .i64 cK, .int .i64 cV] 23) (.cells #[.int .i64 lv, .slice kA kn kc, .slice pA pn pc, .slice bA bn bc, .slice qA qn qc] 31) (.cells #[.int .i64 lv', .slice kA' kn' kc', .slice pA' pn' pc', .slice bA' bn' bc', .slice qA' qn' qc'] 31))
  generalize ((W.alloc (.cells #[.int .i64 cB, .int .i64 cY, .int .i64 cF, .int .i64 cN, .int .i64 cU, .int .i64 cL, .int .i64 cK, .int .i64 cV] 23)).alloc (.cells #[.int .i64 lv, .slice kA kn kc, .slice pA pn pc, .slice bA bn bc, .slice qA qn qc] 31)).alloc (.cells #[.int .i64 lv', .slice kA' kn' kc', .slice pA' pn' pc', .slice bA' bn' bc', .slice qA' qn' qc'] 31) = w1 at *
  obtain ⟨g, hg⟩ : ∃ g, g = W.heap.size := ⟨_, rfl⟩
  rw [← hg] at HB
  simp only [← hg]
  clear hg
  obtain ⟨e0, e1, e2, e3, e4⟩ := box5 HB.out.y
  obtain ⟨d0, d1, d2, d3, d4⟩ := box5 HB.out.z
  by_cases hl : lv = lv'
  case neg =>
    have hd : (lv != lv') = true := by simpa using hl
    have HR2 : Hid (r = false) := by unfold Hid; rw [HR.out, decide_eq_false hl, Bool.false_and]
    clear hl HR
    go_wp2_with fail
    go_ret
    exact ⟨by rw [HR2.out]; rfl, HB.out.below⟩
  subst hl
  by_cases h0 : lv = 0
  · subst h0
    have HR2 : Hid (r = decide ((((2 * (qn + qn') : Nat)) : Int) ≤ cL)) := by unfold Hid; rw [HR.out, decide_eq_true rfl, Bool.true_and, if_pos rfl]; norm_cast
    have hw : IntKind.i64.wrap ((qn : Int) + (qn' : Int)) = ((qn + qn' : Nat) : Int) := by rw [IntKind.wrap_i64]; omega
    have hw2 : IntKind.i64.wrap (2 * ((qn + qn' : Nat) : Int)) = ((2 * (qn + qn') : Nat) : Int) := by rw [IntKind.wrap_i64]; omega
    obtain ⟨g0, g1, g2, g3, g4, g5, g6, g7⟩ := box8 HB.out.x
    generalize 2 * (qn + qn') = q at *
    generalize qn + qn' = u at *
    clear HR
    go_wp2_with fail
    go_ret
    exact ⟨by rw [HR2.out]; rfl, HB.out.below⟩
  · have HR2 : Hid (r = (decide ((((2 * (kn + kn') : Nat)) : Int) ≤ cN) && decide (((bn + bn' : Nat) : Int) ≤ cU))) := by unfold Hid; rw [HR.out, decide_eq_true rfl, Bool.true_and, if_neg h0]; norm_cast
    have hw : IntKind.i64.wrap ((kn : Int) + (kn' : Int)) = ((kn + kn' : Nat) : Int) := by rw [IntKind.wrap_i64]; omega
    have hw2 : IntKind.i64.wrap (2 * ((kn + kn' : Nat) : Int)) = ((2 * (kn + kn') : Nat) : Int) := by rw [IntKind.wrap_i64]; omega
    have hw3 : IntKind.i64.wrap ((bn : Int) + (bn' : Int)) = ((bn + bn' : Nat) : Int) := by rw [IntKind.wrap_i64]; omega
    have hd0 : (lv == 0) = false := by simpa using h0
    obtain ⟨g0, g1, g2, g3, g4, g5, g6, g7⟩ := box8 HB.out.x
    generalize 2 * (kn + kn') = q at *
    generalize kn + kn' = v at *
    generalize bn + bn' = u at *
    clear HR h0
    by_cases hq : (q : Int) ≤ cN
    · have HR3 : Hid (r = decide ((u : Int) ≤ cU)) := by unfold Hid; rw [HR2.out, decide_eq_true hq, Bool.true_and]
      clear HR2
      go_wp2_with fail
      go_ret
      exact ⟨by rw [HR3.out]; rfl, HB.out.below⟩
    · have HR3 : Hid (r = false) := by unfold Hid; rw [HR2.out, decide_eq_false hq, Bool.false_and]
      have hq' : cN < (q : Int) := by omega
      clear HR2 hq
      go_wp2_with fail
      go_ret
      exact ⟨by rw [HR3.out]; rfl, HB.out.below⟩
end No
end Go.Proofs.Ytohnllclkpflaaa

namespace Go.Proofs.Ytohnllclkpflaaa
open Go.RowKit
namespace No
open Mem Lx Bu
theorem slinfoK : (Try.prog.info? 46).map (fun i => (i.zero, i.size, i.bytes)) = some (some (.int .u32 0), 1, 4) := by kernel_rfl
set_option maxRecDepth 100000 in
set_option maxHeartbeats 2000000 in
set_option maxRecDepth 100000 in
theorem CloneK_any {W : World} {A : Option Addr} {c : Nat} {L : List Nat} (h : RdK KdK W A L) (hl : L.length ≤ 1048576) : Calls Try.prog 44 #[.slice A L.length c] W fun e w' => (∃ A' c', e = .returned (.slice A' L.length c') ∧ VK KdK w' W.heap.size A' c' L) ∧ Below W.heap.size W w' := by
  have hq := fun (w : World) (a : Option Addr) (n c n' c' : Nat) => Lib.run_eql_slice_nil (P := Try.prog) w 26 _ a n c n' c' Try.underlying26
  cases A with
  | none =>
    obtain rfl : L = [] := List.length_eq_zero_iff.1 (Nat.eq_zero_of_not_pos fun h0 => by
      obtain ⟨b, o, e, _⟩ := h h0
      cases e)
    go_enter Try.func44, Try.ntmps44
    go_wp2_with fail
    go_ret
    exact ⟨⟨none, 0, rfl, VK.nil _ _⟩, Below.refl _ _⟩
  | some a =>
    have HH := Lib.hid h
    generalize hn : L.length = n at *
    have HN := Lib.hid hn
    clear h hn
    go_enter Try.func44, Try.ntmps44
    go_upto_region 3 with fail
    have hb : Below W.heap.size W (W.alloc (.cells #[] 46)) := (Below.refl _ _).alloc (Nat.le_refl _) _
    have HV0 : Hid (VK KdK (W.alloc (.cells #[] 46)) W.heap.size (some ⟨W.heap.size, 0, none⟩) 0 []) := VK.lit (K := KdK) W W.heap.size (Nat.le_refl _)
    have HAL := Lib.hid (HH.out.kept hb)
    have hs := hb.size
    have hn2 : 0 + n ≤ 1048576 := by omega
    have HB := Lib.hid hb
    clear hb HH
    go_wp2_with (with_reducible refine wpList_append_allK (K := KdK) Try.underlying26 slinfoK rfl (by decide) (by decide) rfl (.tmp 5) (.tmp 6) rfl W.heap.size (some ⟨W.heap.size, 0, none⟩) 0 0 [] rfl rfl HV0.out (some a) n c L rfl HN.out HAL.out hn2 hs ?_; intro Aw cw w4 hv4 hb4)
    go_ret
    exact ⟨⟨Aw, cw, rfl, hv4.out⟩, HB.out.trans hb4.out⟩
end No
end Go.Proofs.Ytohnllclkpflaaa

namespace Go.Proofs.Ytohnllclkpflaaa
open Go.RowKit
namespace No
open Mem Lx Bu
set_option maxRecDepth 100000 in
set_option maxHeartbeats 2000000 in
theorem GrowK_nil (W : World) (n : Nat) (hn : n ≤ 1048576) : Calls Try.prog 47 #[.slice none 0 0, .int .i64 (n : Int)] W fun e w' => (∃ A' c', e = .returned (.slice A' 0 c') ∧ VK KdK w' W.heap.size A' c' []) ∧ Below W.heap.size W w' := by
  rcases Nat.eq_zero_or_pos n with rfl | h0
  · go_enter Try.func47, Try.ntmps47
    go_wp2_with fail
    go_ret
    exact ⟨⟨none, 0, rfl, VK.nil _ _⟩, Below.refl _ _⟩
  · obtain ⟨i, hi, hz, hs, hby⟩ := info_parts slinfoK
    have hrz := fun ty => Lib.run_append_nil_zeros (P := Try.prog) W 26 3 ty 46 i _ .i64 .i64 Try.underlying26 Try.underlying3 hi hz n h0 (by omega) (by omega) (by rw [hby]; omega)
    have hcap := grownCap_le_maxLen W n 0 46 (by unfold maxLen; omega)
    have hge := grownCap_ge W n 0 46
    generalize grownCap W n 0 46 = cap at *
    have HV : Hid (VK KdK (W.drew.alloc (.cells (Builtin.zeroCells (Value.int .u32 0).cells n ++ Builtin.zeroCells (Value.int .u32 0).cells (cap - n)) 46)) W.heap.size (some ⟨W.heap.size, 0, none⟩) cap []) := World.ownsRow_made (base := W.heap.size) (e := 46) (size := 1) W.drew _ cap (Nat.le_refl _) hcap (by
      rw [Array.size_append, zeroCellsK_size, zeroCellsK_size, ← Nat.add_mul]
      rw [show n + (cap - n) = cap by omega]
      rfl)
    have HB : Hid (Below W.heap.size W (W.drew.alloc (.cells (Builtin.zeroCells (Value.int .u32 0).cells n ++ Builtin.zeroCells (Value.int .u32 0).cells (cap - n)) 46))) := (Below.refl _ _).drew.alloc (Nat.le_refl _) _
    generalize W.drew.alloc (.cells (Builtin.zeroCells (Value.int .u32 0).cells n ++ Builtin.zeroCells (Value.int .u32 0).cells (cap - n)) 46) = w1 at *
    clear hi hz hs hby
    unfold maxLen at hcap
    generalize hg : W.heap.size = g at *
    go_enter Try.func47, Try.ntmps47
    go_wp2_with (with_reducible refine Lib.wpList_append_run _ rfl _ _ _ _ rfl _ _ rfl rfl _ _ (hrz _) ?_)
    go_ret
    exact ⟨⟨_, cap, rfl, HV.out⟩, HB.out⟩
set_option maxRecDepth 100000 in
set_option maxHeartbeats 4000000 in
theorem ConcatK_any {W : World} {g cx : Nat} {LS : List (List Nat)} (h : MK KdK W g LS) (hn : LS.length ≤ 1000) (hl : LS.flatten.length ≤ 1000000) : Calls Try.prog 31 #[.slice (some ⟨g, 0, none⟩) LS.length cx] W fun e w' => (∃ A' c', e = .returned (.slice A' LS.flatten.length c') ∧ VK KdK w' W.heap.size A' c' LS.flatten) ∧ Below W.heap.size W w' := by
  have HF : Hid (∀ k, ((LS.take k).flatten).length ≤ 1000000) := fun k => Nat.le_trans (flatK_le LS k) hl
  have HT : Hid ((LS.take LS.length).flatten = LS.flatten) := by unfold Hid; rw [List.take_length]
  have HH := Lib.hid h
  generalize hm : LS.length = m at *
  generalize ht : LS.flatten.length = t at *
  have HM := Lib.hid hm
  have HL := Lib.hid ht
  have cG := fun W => Lib.hid (GrowK_nil W t (by omega))
  clear h hm ht
  go_enter Try.func31, Try.ntmps31
  go_upto_block 0 with fail
  go_cut [3] (fun sv wx => sv = .int .i64 (t : Int) ∧ wx = W)
  case first =>
    go_wp2_with fail
    go_loopg [3, 11] m (fun gk sv iv wr => ∃ (k s : Nat), k ≤ m ∧ gk = m - k ∧ iv = .int .i64 (k : Int) ∧ sv = .int .i64 (s : Int) ∧ s ≤ 1000000 ∧ Hid (((LS.take k).flatten).length = s) ∧ wr = W)
    case atStart => exact ⟨0, 0, Nat.zero_le _, rfl, rfl, rfl, Nat.zero_le _, rfl, rfl⟩
    case round =>
      obtain ⟨k, s, hk, rfl, rfl, rfl, hs, HS, rfl⟩ := hrel
      by_cases hlt : k < m
      · have hkL : k < LS.length := by rw [HM.out]; exact hlt
        obtain ⟨L, hLL⟩ : ∃ L, L = LS[k] := ⟨_, rfl⟩
        have hL' : LS[k]? = some L := by rw [hLL]; exact List.getElem?_eq_getElem hkL
        obtain ⟨A, c, hc, hML⟩ := HH.out k L hL'
        obtain ⟨l, hll⟩ : ∃ l, l = L.length := ⟨_, rfl⟩
        rw [← hll] at hc
        have HS2 : Hid (((LS.take (k + 1)).flatten).length = s + l) := by
          unfold Hid
          rw [flatK_next hL', List.length_append, HS.out, hll]
        have hb2 : s + l ≤ 1000000 := by rw [← HS2.out]; exact HF.out (k + 1)
        clear hLL hL' hML hll hkL
        have hw2 : IntKind.i64.wrap ((k : Int) + 1) = ((k + 1 : Nat) : Int) := by rw [IntKind.wrap_i64]; omega
        have hw3 : IntKind.i64.wrap ((s : Int) + (l : Int)) = ((s + l : Nat) : Int) := by rw [IntKind.wrap_i64]; omega
        go_wp2_with fail
        go_roundg (m - (k + 1))
        case measure => omega
        case rel => exact ⟨k + 1, s + l, hlt, rfl, by go_num, by go_num, hb2, HS2, rfl⟩
      · obtain rfl : k = m := by omega
        have HE : Hid (s = t) := by
          unfold Hid
          rw [← HS.out, HT.out, HL.out]
        obtain rfl := HE.out
        go_wp2_with fail
        go_meet
        exact ⟨rfl, rfl⟩
  case rest =>
  obtain ⟨rfl, rfl⟩ := hcut
  go_upto_region 10 with (go_at_call 47; refine (cG _).out.mono ?_; rintro e w1 ⟨⟨A0, c0, rfl, h1⟩, hb⟩)
  have H0 := Lib.hid h1
  have HB0 := Lib.hid hb
  clear h1 hb cG
  go_wp2_with fail
  go_loopg [6, 27] m (fun gk bv iv wr => ∃ (k j c' : Nat) (A' : Option Addr), k ≤ m ∧ gk = m - k ∧ iv = .int .i64 (k : Int) ∧ bv = .slice A' j c' ∧ j ≤ 1000000 ∧ Hid (((LS.take k).flatten).length = j) ∧ Hid (VK KdK wr wc.heap.size A' c' ((LS.take k).flatten)) ∧ Hid (Below wc.heap.size wc wr))
  case atStart => exact ⟨0, 0, c0, A0, Nat.zero_le _, rfl, rfl, rfl, Nat.zero_le _, rfl, H0, HB0⟩
  case round =>
    obtain ⟨k, j, c', A', hk, rfl, rfl, rfl, hj, HJ, HV, HB⟩ := hrel
    clear H0 HB0
    by_cases hlt : k < m
    · have hkL : k < LS.length := by rw [HM.out]; exact hlt
      obtain ⟨L, hLL⟩ : ∃ L, L = LS[k] := ⟨_, rfl⟩
      have hL' : LS[k]? = some L := by rw [hLL]; exact List.getElem?_eq_getElem hkL
      obtain ⟨A, c, hc, hML⟩ := (HH.out.kept HB.out) k L hL'
      obtain ⟨l, hll⟩ : ∃ l, l = L.length := ⟨_, rfl⟩
      rw [← hll] at hc
      have HS2 := Lib.hid (flatK_next hL')
      have hb2 : j + l ≤ 1000000 := by
        have := HF.out (k + 1)
        rw [HS2.out, List.length_append, HJ.out, ← hll] at this
        exact this
      have HAL := Lib.hid hML
      have HLN := Lib.hid hll.symm
      have hn2 : j + l ≤ 1048576 := by omega
      have hs2 := HB.out.size
      have hw2 : IntKind.i64.wrap ((k : Int) + 1) = ((k + 1 : Nat) : Int) := by rw [IntKind.wrap_i64]; omega
      clear hLL hL' hML hll hkL
      go_wp2_with (with_reducible refine wpList_append_allK (K := KdK) Try.underlying26 slinfoK rfl (by decide) (by decide) rfl (.tmp 31) (.tmp 32) rfl wc.heap.size A' j c' _ rfl HJ.out HV.out A l c L rfl HLN.out HAL.out hn2 hs2 ?_; intro Aw cw w4 hv4 hb4)
      go_roundg (m - (k + 1))
      case measure => omega
      case rel => exact ⟨k + 1, j + l, cw, Aw, hlt, rfl, by go_num, rfl, hb2, by unfold Hid; rw [HS2.out, List.length_append, HJ.out, HLN.out], by rw [HS2.out]; exact hv4.out, HB.out.trans hb4.out⟩
    · obtain rfl : k = m := by omega
      rw [HT.out] at HV HJ
      have HE : Hid (j = t) := by
        unfold Hid
        rw [← HJ.out, HL.out]
      obtain rfl := HE.out
      clear hlt
      go_wp2_with fail
      go_ret
      exact ⟨⟨A', c', rfl, HV.out⟩, HB.out⟩
theorem concatK2 {W : World} {g cx : Nat} {U : TypeId} {L1 L2 X : List Nat} {A1 A2 : Option Addr} {n1 n2 c1 c2 N : Nat} {fl : Nat × Nat} (h : W.heap[g]? = some (.cells #[.slice A1 n1 c1, .slice A2 n2 c2] U fl)) (e1 : L1.length = n1) (e2 : L2.length = n2) (h1 : RdK KdK W A1 L1) (h2 : RdK KdK W A2 L2) (hX : L1 ++ L2 = X) (hN : X.length = N) (hl : N ≤ 1000000) : Calls Try.prog 31 #[.slice (some ⟨g, 0, none⟩) 2 cx] W fun e w' => (∃ v, e = .returned v ∧ EvRK KdK W.heap.size N X v w') ∧ Below W.heap.size W w' := by
  have hf : [L1, L2].flatten = X := by rw [← hX]; simp
  have := ConcatK_any (cx := cx) (MK.two h e1 e2 h1 h2) (show 2 ≤ 1000 by decide) (by rw [hf, hN]; exact hl)
  rw [hf, hN] at this
  exact this.mono fun e w' ⟨⟨A', c', he, hm⟩, hb⟩ => ⟨⟨_, he, A', c', rfl, hm⟩, hb⟩
theorem concatK3 {W : World} {g cx : Nat} {U : TypeId} {L1 L2 L3 X : List Nat} {A1 A2 A3 : Option Addr} {n1 n2 n3 c1 c2 c3 N : Nat} {fl : Nat × Nat} (h : W.heap[g]? = some (.cells #[.slice A1 n1 c1, .slice A2 n2 c2, .slice A3 n3 c3] U fl)) (e1 : L1.length = n1) (e2 : L2.length = n2) (e3 : L3.length = n3) (h1 : RdK KdK W A1 L1) (h2 : RdK KdK W A2 L2) (h3 : RdK KdK W A3 L3) (hX : L1 ++ L2 ++ L3 = X) (hN : X.length = N) (hl : N ≤ 1000000) : Calls Try.prog 31 #[.slice (some ⟨g, 0, none⟩) 3 cx] W fun e w' => (∃ v, e = .returned v ∧ EvRK KdK W.heap.size N X v w') ∧ Below W.heap.size W w' := by
  have hf : [L1, L2, L3].flatten = X := by rw [← hX]; simp
  have := ConcatK_any (cx := cx) (MK.three h e1 e2 e3 h1 h2 h3) (show 3 ≤ 1000 by decide) (by rw [hf, hN]; exact hl)
  rw [hf, hN] at this
  exact this.mono fun e w' ⟨⟨A', c', he, hm⟩, hb⟩ => ⟨⟨_, he, A', c', rfl, hm⟩, hb⟩
theorem cloneRK {W : World} {A : Option Addr} {n c : Nat} {X : List Nat} (h : RdK KdK W A X) (hn : X.length = n) (hl : n ≤ 1000000) : Calls Try.prog 44 #[.slice A n c] W fun e w' => (∃ v, e = .returned v ∧ EvRK KdK W.heap.size n X v w') ∧ Below W.heap.size W w' := by
  subst hn
  exact (CloneK_any (c := c) h (by omega)).mono fun e w' ⟨⟨A', c', he, hm⟩, hb⟩ => ⟨⟨_, he, A', c', rfl, hm⟩, hb⟩
end No
end Go.Proofs.Ytohnllclkpflaaa
