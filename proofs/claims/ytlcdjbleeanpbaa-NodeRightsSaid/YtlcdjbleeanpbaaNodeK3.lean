/-
  The document's node: Same, Key.
-/
import Derived.Test.YtlcdjbleeanpbaaNodeK2
namespace Go.Proofs.Ytlcdjbleeanpbaa
open Go.RowKit
namespace No
open Mem Lx Bu
open Lf (Pr PrK PL P3 PC)
open Fa (StK SL SC wayS SRise RightS)
theorem nd_eq {n n' : Nd} : n = n' ↔ n.lv = n'.lv ∧ n.kids = n'.kids ∧ n.piv = n'.piv ∧ n.buf = n'.buf ∧ n.prs = n'.prs := by
  obtain ⟨a, b, c, d, e⟩ := n
  obtain ⟨a', b', c', d', e'⟩ := n'
  simp
set_option maxRecDepth 100000 in
set_option maxHeartbeats 4000000 in
theorem RSame_any {W : World} {n n' : Nd} {a a' : At} (h : NdIn W n a) (h' : NdIn W n' a') (hs : Sz n) (hs' : Sz n') : Calls Try.prog 15 #[.agg (ndCs n a), .agg (ndCs n' a')] W fun e w' => (∃ v : Bool, e = .returned (.bool v) ∧ (v = true ↔ n = n')) ∧ Below W.heap.size W w' := by
  obtain ⟨b1, hb1⟩ := bool_of (n.kids = n'.kids)
  obtain ⟨b2, hb2⟩ := bool_of (n.piv = n'.piv)
  obtain ⟨b3, hb3⟩ := bool_of (n.buf = n'.buf)
  obtain ⟨b4, hb4⟩ := bool_of (n.prs = n'.prs)
  have c1 : ∀ (W1 : World), Below W.heap.size W W1 → Hid (Calls Try.prog 38 #[.slice a.kA n.kids.length a.kc, .slice a'.kA n'.kids.length a'.kc] W1 fun e w' => e = .returned (.bool b1) ∧ Below W1.heap.size W1 w') := fun W1 hb => (RBlocks_any (c := a.kc) (c' := a'.kc) (h.kept hb).kids.1 (h'.kept hb).kids.1 (Nat.le_trans hs.kl (by decide)) (Nat.le_trans hs'.kl (by decide))).mono fun e w' ⟨⟨v, he, hv⟩, hb⟩ => ⟨by rw [he, bool_one hv hb1], hb⟩
  have c2 : ∀ (W1 : World), Below W.heap.size W W1 → Hid (Calls Try.prog 39 #[.slice a.pA n.piv.length a.pc, .slice a'.pA n'.piv.length a'.pc] W1 fun e w' => e = .returned (.bool b2) ∧ Below W1.heap.size W1 w') := fun W1 hb => (Fa.RSameS_any (c := a.pc) (c' := a'.pc) (h.kept hb).piv.1 (h'.kept hb).piv.1 (Nat.le_trans hs.pl (by decide)) (Nat.le_trans hs'.pl (by decide))).mono fun e w' ⟨⟨v, he, hv⟩, hb⟩ => ⟨by rw [he, bool_one hv hb2], hb⟩
  have c3 : ∀ (W1 : World), Below W.heap.size W W1 → Hid (Calls Try.prog 40 #[.slice a.bA n.buf.length a.bc, .slice a'.bA n'.buf.length a'.bc] W1 fun e w' => e = .returned (.bool b3) ∧ Below W1.heap.size W1 w') := fun W1 hb => (Bu.RSame_any (c := a.bc) (c' := a'.bc) (h.kept hb).buf.1 (h'.kept hb).buf.1 (Nat.le_trans hs.bl (by decide)) (Nat.le_trans hs'.bl (by decide))).mono fun e w' ⟨⟨v, he, hv⟩, hb⟩ => ⟨by rw [he, bool_one hv hb3], hb⟩
  have c4 : ∀ (W1 : World), Below W.heap.size W W1 → Hid (Calls Try.prog 41 #[.slice a.qA n.prs.length a.qc, .slice a'.qA n'.prs.length a'.qc] W1 fun e w' => e = .returned (.bool b4) ∧ Below W1.heap.size W1 w') := fun W1 hb => (Lf.RSame_any (c := a.qc) (c' := a'.qc) (h.kept hb).prs.1 (h'.kept hb).prs.1 (Nat.le_trans hs.ql (by decide)) (Nat.le_trans hs'.ql (by decide))).mono fun e w' ⟨⟨v, he, hv⟩, hb⟩ => ⟨by rw [he, bool_one hv hb4], hb⟩
  have HP : Hid (∀ v : Bool, v = (decide (n.lv = n'.lv) && b1 && b2 && b3 && b4) → (v = true ↔ n = n')) := fun v hv => by
    subst hv
    rw [nd_eq, Bool.and_eq_true, Bool.and_eq_true, Bool.and_eq_true, Bool.and_eq_true, hb1, hb2, hb3, hb4, decide_eq_true_iff, and_assoc, and_assoc, and_assoc]
  generalize hPP : (n = n') = PP at *
  clear hPP h h' hs hs' hb1 hb2 hb3 hb4
  obtain ⟨lv, K, P, B, Q⟩ := n
  obtain ⟨kA, kc, pA, pc, bA, bc, qA, qc⟩ := a
  obtain ⟨lv', K', P', B', Q'⟩ := n'
  obtain ⟨kA', kc', pA', pc', bA', bc', qA', qc'⟩ := a'
  unfold ndCs at *
  simp only at *
  generalize K.length = kn at *
  generalize P.length = pn at *
  generalize B.length = bn at *
  generalize Q.length = qn at *
  generalize K'.length = kn' at *
  generalize P'.length = pn' at *
  generalize B'.length = bn' at *
  generalize Q'.length = qn' at *
  go_enter Try.func15, Try.ntmps15
  go_upto_region 1 with fail
  have h3 := two_new W (.cells #[.int .i64 lv, .slice kA kn kc, .slice pA pn pc, .slice bA bn bc, .slice qA qn qc] 31) (.cells #[.int .i64 lv', .slice kA' kn' kc', .slice pA' pn' pc', .slice bA' bn' bc', .slice qA' qn' qc'] 31)
  generalize (W.alloc (.cells #[.int .i64 lv, .slice kA kn kc, .slice pA pn pc, .slice bA bn bc, .slice qA qn qc] 31)).alloc (.cells #[.int .i64 lv', .slice kA' kn' kc', .slice pA' pn' pc', .slice bA' bn' bc', .slice qA' qn' qc'] 31) = w1 at *
  have HB := Lib.hid h3.2.2
  obtain ⟨g, hg⟩ : ∃ g, g = W.heap.size := ⟨_, rfl⟩
  simp only [← hg]
  have HX : Hid (w1.heap[g]? = some (.cells #[.int .i64 lv, .slice kA kn kc, .slice pA pn pc, .slice bA bn bc, .slice qA qn qc] 31 (0, 0))) := by rw [hg]; exact h3.1
  have HY : Hid (w1.heap[g + 1]? = some (.cells #[.int .i64 lv', .slice kA' kn' kc', .slice pA' pn' pc', .slice bA' bn' bc', .slice qA' qn' qc'] 31 (0, 0))) := by rw [hg]; exact h3.2.1
  clear h3 hg
  obtain ⟨d0, d1, d2, d3, d4⟩ := box5 HX.out
  obtain ⟨e0, e1, e2, e3, e4⟩ := box5 HY.out
  by_cases hlv : lv = lv'
  case neg =>
    have hne : ¬ (lv = lv') := hlv
    go_wp2_with (first
      | (go_at_call 38; refine (c1 _ HB.out).out.mono ?_; rintro e w2 ⟨rfl, hb⟩; replace HB := Lib.hid (HB.out.trans (hb.mono HB.out.size)); replace HX := Lib.hid (kept3 HX.out hb); replace HY := Lib.hid (kept3 HY.out hb); replace d1 := (box5 HX.out).2.1; replace d2 := (box5 HX.out).2.2.1; replace d3 := (box5 HX.out).2.2.2.1; replace d4 := (box5 HX.out).2.2.2.2; replace e1 := (box5 HY.out).2.1; replace e2 := (box5 HY.out).2.2.1; replace e3 := (box5 HY.out).2.2.2.1; replace e4 := (box5 HY.out).2.2.2.2; clear hb)
      | (go_at_call 39; refine (c2 _ HB.out).out.mono ?_; rintro e w2 ⟨rfl, hb⟩; replace HB := Lib.hid (HB.out.trans (hb.mono HB.out.size)); replace HX := Lib.hid (kept3 HX.out hb); replace HY := Lib.hid (kept3 HY.out hb); replace d1 := (box5 HX.out).2.1; replace d2 := (box5 HX.out).2.2.1; replace d3 := (box5 HX.out).2.2.2.1; replace d4 := (box5 HX.out).2.2.2.2; replace e1 := (box5 HY.out).2.1; replace e2 := (box5 HY.out).2.2.1; replace e3 := (box5 HY.out).2.2.2.1; replace e4 := (box5 HY.out).2.2.2.2; clear hb)
      | (go_at_call 40; refine (c3 _ HB.out).out.mono ?_; rintro e w2 ⟨rfl, hb⟩; replace HB := Lib.hid (HB.out.trans (hb.mono HB.out.size)); replace HX := Lib.hid (kept3 HX.out hb); replace HY := Lib.hid (kept3 HY.out hb); replace d1 := (box5 HX.out).2.1; replace d2 := (box5 HX.out).2.2.1; replace d3 := (box5 HX.out).2.2.2.1; replace d4 := (box5 HX.out).2.2.2.2; replace e1 := (box5 HY.out).2.1; replace e2 := (box5 HY.out).2.2.1; replace e3 := (box5 HY.out).2.2.2.1; replace e4 := (box5 HY.out).2.2.2.2; clear hb)
      | (go_at_call 41; refine (c4 _ HB.out).out.mono ?_; rintro e w2 ⟨rfl, hb⟩; replace HB := Lib.hid (HB.out.trans (hb.mono HB.out.size)); replace HX := Lib.hid (kept3 HX.out hb); replace HY := Lib.hid (kept3 HY.out hb); replace d1 := (box5 HX.out).2.1; replace d2 := (box5 HX.out).2.2.1; replace d3 := (box5 HX.out).2.2.2.1; replace d4 := (box5 HX.out).2.2.2.2; replace e1 := (box5 HY.out).2.1; replace e2 := (box5 HY.out).2.2.1; replace e3 := (box5 HY.out).2.2.2.1; replace e4 := (box5 HY.out).2.2.2.2; clear hb))
    go_ret
    exact ⟨⟨false, rfl, HP.out false (by simp [hlv])⟩, HB.out⟩
  subst hlv
  cases b1 with
  | false =>
    go_wp2_with (first
      | (go_at_call 38; refine (c1 _ HB.out).out.mono ?_; rintro e w2 ⟨rfl, hb⟩; replace HB := Lib.hid (HB.out.trans (hb.mono HB.out.size)); replace HX := Lib.hid (kept3 HX.out hb); replace HY := Lib.hid (kept3 HY.out hb); replace d1 := (box5 HX.out).2.1; replace d2 := (box5 HX.out).2.2.1; replace d3 := (box5 HX.out).2.2.2.1; replace d4 := (box5 HX.out).2.2.2.2; replace e1 := (box5 HY.out).2.1; replace e2 := (box5 HY.out).2.2.1; replace e3 := (box5 HY.out).2.2.2.1; replace e4 := (box5 HY.out).2.2.2.2; clear hb)
      | (go_at_call 39; refine (c2 _ HB.out).out.mono ?_; rintro e w2 ⟨rfl, hb⟩; replace HB := Lib.hid (HB.out.trans (hb.mono HB.out.size)); replace HX := Lib.hid (kept3 HX.out hb); replace HY := Lib.hid (kept3 HY.out hb); replace d1 := (box5 HX.out).2.1; replace d2 := (box5 HX.out).2.2.1; replace d3 := (box5 HX.out).2.2.2.1; replace d4 := (box5 HX.out).2.2.2.2; replace e1 := (box5 HY.out).2.1; replace e2 := (box5 HY.out).2.2.1; replace e3 := (box5 HY.out).2.2.2.1; replace e4 := (box5 HY.out).2.2.2.2; clear hb)
      | (go_at_call 40; refine (c3 _ HB.out).out.mono ?_; rintro e w2 ⟨rfl, hb⟩; replace HB := Lib.hid (HB.out.trans (hb.mono HB.out.size)); replace HX := Lib.hid (kept3 HX.out hb); replace HY := Lib.hid (kept3 HY.out hb); replace d1 := (box5 HX.out).2.1; replace d2 := (box5 HX.out).2.2.1; replace d3 := (box5 HX.out).2.2.2.1; replace d4 := (box5 HX.out).2.2.2.2; replace e1 := (box5 HY.out).2.1; replace e2 := (box5 HY.out).2.2.1; replace e3 := (box5 HY.out).2.2.2.1; replace e4 := (box5 HY.out).2.2.2.2; clear hb)
      | (go_at_call 41; refine (c4 _ HB.out).out.mono ?_; rintro e w2 ⟨rfl, hb⟩; replace HB := Lib.hid (HB.out.trans (hb.mono HB.out.size)); replace HX := Lib.hid (kept3 HX.out hb); replace HY := Lib.hid (kept3 HY.out hb); replace d1 := (box5 HX.out).2.1; replace d2 := (box5 HX.out).2.2.1; replace d3 := (box5 HX.out).2.2.2.1; replace d4 := (box5 HX.out).2.2.2.2; replace e1 := (box5 HY.out).2.1; replace e2 := (box5 HY.out).2.2.1; replace e3 := (box5 HY.out).2.2.2.1; replace e4 := (box5 HY.out).2.2.2.2; clear hb))
    go_ret
    exact ⟨⟨false, rfl, HP.out false (by simp)⟩, HB.out⟩
  | true =>
    cases b2 with
    | false =>
      go_wp2_with (first
        | (go_at_call 38; refine (c1 _ HB.out).out.mono ?_; rintro e w2 ⟨rfl, hb⟩; replace HB := Lib.hid (HB.out.trans (hb.mono HB.out.size)); replace HX := Lib.hid (kept3 HX.out hb); replace HY := Lib.hid (kept3 HY.out hb); replace d1 := (box5 HX.out).2.1; replace d2 := (box5 HX.out).2.2.1; replace d3 := (box5 HX.out).2.2.2.1; replace d4 := (box5 HX.out).2.2.2.2; replace e1 := (box5 HY.out).2.1; replace e2 := (box5 HY.out).2.2.1; replace e3 := (box5 HY.out).2.2.2.1; replace e4 := (box5 HY.out).2.2.2.2; clear hb)
        | (go_at_call 39; refine (c2 _ HB.out).out.mono ?_; rintro e w2 ⟨rfl, hb⟩; replace HB := Lib.hid (HB.out.trans (hb.mono HB.out.size)); replace HX := Lib.hid (kept3 HX.out hb); replace HY := Lib.hid (kept3 HY.out hb); replace d1 := (box5 HX.out).2.1; replace d2 := (box5 HX.out).2.2.1; replace d3 := (box5 HX.out).2.2.2.1; replace d4 := (box5 HX.out).2.2.2.2; replace e1 := (box5 HY.out).2.1; replace e2 := (box5 HY.out).2.2.1; replace e3 := (box5 HY.out).2.2.2.1; replace e4 := (box5 HY.out).2.2.2.2; clear hb)
        | (go_at_call 40; refine (c3 _ HB.out).out.mono ?_; rintro e w2 ⟨rfl, hb⟩; replace HB := Lib.hid (HB.out.trans (hb.mono HB.out.size)); replace HX := Lib.hid (kept3 HX.out hb); replace HY := Lib.hid (kept3 HY.out hb); replace d1 := (box5 HX.out).2.1; replace d2 := (box5 HX.out).2.2.1; replace d3 := (box5 HX.out).2.2.2.1; replace d4 := (box5 HX.out).2.2.2.2; replace e1 := (box5 HY.out).2.1; replace e2 := (box5 HY.out).2.2.1; replace e3 := (box5 HY.out).2.2.2.1; replace e4 := (box5 HY.out).2.2.2.2; clear hb)
        | (go_at_call 41; refine (c4 _ HB.out).out.mono ?_; rintro e w2 ⟨rfl, hb⟩; replace HB := Lib.hid (HB.out.trans (hb.mono HB.out.size)); replace HX := Lib.hid (kept3 HX.out hb); replace HY := Lib.hid (kept3 HY.out hb); replace d1 := (box5 HX.out).2.1; replace d2 := (box5 HX.out).2.2.1; replace d3 := (box5 HX.out).2.2.2.1; replace d4 := (box5 HX.out).2.2.2.2; replace e1 := (box5 HY.out).2.1; replace e2 := (box5 HY.out).2.2.1; replace e3 := (box5 HY.out).2.2.2.1; replace e4 := (box5 HY.out).2.2.2.2; clear hb))
      go_ret
      exact ⟨⟨false, rfl, HP.out false (by simp)⟩, HB.out⟩
    | true =>
      cases b3 with
      | false =>
        go_wp2_with (first
          | (go_at_call 38; refine (c1 _ HB.out).out.mono ?_; rintro e w2 ⟨rfl, hb⟩; replace HB := Lib.hid (HB.out.trans (hb.mono HB.out.size)); replace HX := Lib.hid (kept3 HX.out hb); replace HY := Lib.hid (kept3 HY.out hb); replace d1 := (box5 HX.out).2.1; replace d2 := (box5 HX.out).2.2.1; replace d3 := (box5 HX.out).2.2.2.1; replace d4 := (box5 HX.out).2.2.2.2; replace e1 := (box5 HY.out).2.1; replace e2 := (box5 HY.out).2.2.1; replace e3 := (box5 HY.out).2.2.2.1; replace e4 := (box5 HY.out).2.2.2.2; clear hb)
          | (go_at_call 39; refine (c2 _ HB.out).out.mono ?_; rintro e w2 ⟨rfl, hb⟩; replace HB := Lib.hid (HB.out.trans (hb.mono HB.out.size)); replace HX := Lib.hid (kept3 HX.out hb); replace HY := Lib.hid (kept3 HY.out hb); replace d1 := (box5 HX.out).2.1; replace d2 := (box5 HX.out).2.2.1; replace d3 := (box5 HX.out).2.2.2.1; replace d4 := (box5 HX.out).2.2.2.2; replace e1 := (box5 HY.out).2.1; replace e2 := (box5 HY.out).2.2.1; replace e3 := (box5 HY.out).2.2.2.1; replace e4 := (box5 HY.out).2.2.2.2; clear hb)
          | (go_at_call 40; refine (c3 _ HB.out).out.mono ?_; rintro e w2 ⟨rfl, hb⟩; replace HB := Lib.hid (HB.out.trans (hb.mono HB.out.size)); replace HX := Lib.hid (kept3 HX.out hb); replace HY := Lib.hid (kept3 HY.out hb); replace d1 := (box5 HX.out).2.1; replace d2 := (box5 HX.out).2.2.1; replace d3 := (box5 HX.out).2.2.2.1; replace d4 := (box5 HX.out).2.2.2.2; replace e1 := (box5 HY.out).2.1; replace e2 := (box5 HY.out).2.2.1; replace e3 := (box5 HY.out).2.2.2.1; replace e4 := (box5 HY.out).2.2.2.2; clear hb)
          | (go_at_call 41; refine (c4 _ HB.out).out.mono ?_; rintro e w2 ⟨rfl, hb⟩; replace HB := Lib.hid (HB.out.trans (hb.mono HB.out.size)); replace HX := Lib.hid (kept3 HX.out hb); replace HY := Lib.hid (kept3 HY.out hb); replace d1 := (box5 HX.out).2.1; replace d2 := (box5 HX.out).2.2.1; replace d3 := (box5 HX.out).2.2.2.1; replace d4 := (box5 HX.out).2.2.2.2; replace e1 := (box5 HY.out).2.1; replace e2 := (box5 HY.out).2.2.1; replace e3 := (box5 HY.out).2.2.2.1; replace e4 := (box5 HY.out).2.2.2.2; clear hb))
        go_ret
        exact ⟨⟨false, rfl, HP.out false (by simp)⟩, HB.out⟩
      | true =>
        go_wp2_with (first
          | (go_at_call 38; refine (c1 _ HB.out).out.mono ?_; rintro e w2 ⟨rfl, hb⟩; replace HB := Lib.hid (HB.out.trans (hb.mono HB.out.size)); replace HX := Lib.hid (kept3 HX.out hb); replace HY := Lib.hid (kept3 HY.out hb); replace d1 := (box5 HX.out).2.1; replace d2 := (box5 HX.out).2.2.1; replace d3 := (box5 HX.out).2.2.2.1; replace d4 := (box5 HX.out).2.2.2.2; replace e1 := (box5 HY.out).2.1; replace e2 := (box5 HY.out).2.2.1; replace e3 := (box5 HY.out).2.2.2.1; replace e4 := (box5 HY.out).2.2.2.2; clear hb)
          | (go_at_call 39; refine (c2 _ HB.out).out.mono ?_; rintro e w2 ⟨rfl, hb⟩; replace HB := Lib.hid (HB.out.trans (hb.mono HB.out.size)); replace HX := Lib.hid (kept3 HX.out hb); replace HY := Lib.hid (kept3 HY.out hb); replace d1 := (box5 HX.out).2.1; replace d2 := (box5 HX.out).2.2.1; replace d3 := (box5 HX.out).2.2.2.1; replace d4 := (box5 HX.out).2.2.2.2; replace e1 := (box5 HY.out).2.1; replace e2 := (box5 HY.out).2.2.1; replace e3 := (box5 HY.out).2.2.2.1; replace e4 := (box5 HY.out).2.2.2.2; clear hb)
          | (go_at_call 40; refine (c3 _ HB.out).out.mono ?_; rintro e w2 ⟨rfl, hb⟩; replace HB := Lib.hid (HB.out.trans (hb.mono HB.out.size)); replace HX := Lib.hid (kept3 HX.out hb); replace HY := Lib.hid (kept3 HY.out hb); replace d1 := (box5 HX.out).2.1; replace d2 := (box5 HX.out).2.2.1; replace d3 := (box5 HX.out).2.2.2.1; replace d4 := (box5 HX.out).2.2.2.2; replace e1 := (box5 HY.out).2.1; replace e2 := (box5 HY.out).2.2.1; replace e3 := (box5 HY.out).2.2.2.1; replace e4 := (box5 HY.out).2.2.2.2; clear hb)
          | (go_at_call 41; refine (c4 _ HB.out).out.mono ?_; rintro e w2 ⟨rfl, hb⟩; replace HB := Lib.hid (HB.out.trans (hb.mono HB.out.size)); replace HX := Lib.hid (kept3 HX.out hb); replace HY := Lib.hid (kept3 HY.out hb); replace d1 := (box5 HX.out).2.1; replace d2 := (box5 HX.out).2.2.1; replace d3 := (box5 HX.out).2.2.2.1; replace d4 := (box5 HX.out).2.2.2.2; replace e1 := (box5 HY.out).2.1; replace e2 := (box5 HY.out).2.2.1; replace e3 := (box5 HY.out).2.2.2.1; replace e4 := (box5 HY.out).2.2.2.2; clear hb))
        go_ret
        exact ⟨⟨b4, rfl, HP.out b4 (by simp)⟩, HB.out⟩
end No
end Go.Proofs.Ytlcdjbleeanpbaa
