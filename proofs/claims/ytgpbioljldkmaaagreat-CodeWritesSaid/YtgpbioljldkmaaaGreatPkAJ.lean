/-
  BoxN, StrS, NodeK3, RowB, FanRightC, BufRightC, LeafRightC, PdqS, PdqA. Put together by pack.py.
-/
import Derived.Test.YtgpbioljldkmaaaGreatPkAG
import Derived.Test.YtgpbioljldkmaaaGreatPkAB
import Derived.Test.YtgpbioljldkmaaaGreatPqDrift
import Derived.Deep.RegionWith
import Derived.Test.YtgpbioljldkmaaaGreatPkAH
import Derived.Test.YtgpbioljldkmaaaGreatPkAE
import Derived.Test.YtgpbioljldkmaaaGreatChecked
import Derived.Test.YtgpbioljldkmaaaGreatPkAA
import Derived.WalkKit
import Derived.WalkLawsBesides
import Derived.KernelRfl
import Derived.WalkSpells
import Derived.BigQuiet
import Derived.StillTailTactics
import Derived.Deep.QuietTactic
import Derived.Deep.DeepCutAuto
import Derived.Deep.CutBlock

namespace Go.Proofs.YtgpbioljldkmaaaGreat
open Go.RowKit
namespace No
open Mem Lx Bu Lf Fa
theorem rc_into {α : Type} {K : Kind α} {w w' : World} {c : Nat} {A : Option Addr} {L : List α} {T : List Nat} (h : RC K w A c L) (hi : Flow.Into T w w') (hb : ∀ y, 0 < L.length → A = some y → y.block ∉ T) : RC K w' A c L := ⟨fun h0 => by
  obtain ⟨yb, yo, e, hl, -⟩ := h.1 h0
  refine h.1.keep hi.size (fun a ha => ?_) h0
  have h2 := hb a h0 ha
  rw [ha] at e
  cases e
  exact hi.block _ hl h2, h.2⟩
/-- a box that holds a node -/
def IsBox (w : World) (b : Nat) : Prop := ∃ (v : Int) (A0 A1 A2 A3 : Option Addr) (n0 c0 n1 c1 n2 c2 n3 c3 : Nat) (U : TypeId), w.heap[b]? = some (.cells #[.int .i64 v, .slice A0 n0 c0, .slice A1 n1 c1, .slice A2 n2 c2, .slice A3 n3 c3] U (0, 0))
/-- a kind of cells that a node's box has not -/
def Strange {α : Type} (K : Kind α) : Prop := ∀ x, ∃ u, (K.cs x)[0]? = some u ∧ (∀ n, u ≠ .int .i64 n) ∧ ∀ A n c, u ≠ .slice A n c
theorem strange_kd : Strange KdK := fun x => ⟨.int .u32 x, rfl, (fun n h => by cases h), fun A n c h => by cases h⟩
theorem strange_st : Strange StK := fun x => ⟨.string x, rfl, (fun n h => by cases h), fun A n c h => by cases h⟩
theorem strange_mg : Strange MgK := fun x => ⟨.string x.1, rfl, (fun n h => by cases h), fun A n c h => by cases h⟩
theorem strange_pr : Strange PrK := fun x => ⟨.string x.1, rfl, (fun n h => by cases h), fun A n c h => by cases h⟩
/-- a row lies in no box of a node -/
theorem rc_off {α : Type} {K : Kind α} {w : World} {A : Option Addr} {c g : Nat} {L : List α} (h : RC K w A c L) (hx : IsBox w g) (hs : Strange K) : ∀ y, 0 < L.length → A = some y → y.block ≠ g := fun y h0 hy hg => by
  obtain ⟨v, A0, A1, A2, A3, n0, c0, n1, c1, n2, c2, n3, c3, U, hx⟩ := hx
  obtain ⟨b, o, e, hl, hc⟩ := h.1 h0
  rw [hy] at e
  cases e
  simp only at hg
  subst hg
  obtain ⟨x, hx0⟩ : ∃ x, L[0]? = some x := ⟨L[0], List.getElem?_eq_getElem h0⟩
  obtain ⟨u, hu, hu1, hu2⟩ := hs x
  have h1 := hc 0 x hx0 0 _ hu
  simp only [World.cell?, hx, Option.isSome_none, Bool.false_eq_true, if_false, Nat.zero_mul, Nat.add_zero] at h1
  match o, h1 with
  | 0, h1 => exact hu1 v (by simpa using h1.symm)
  | 1, h1 => exact hu2 A0 n0 c0 (by simpa using h1.symm)
  | 2, h1 => exact hu2 A1 n1 c1 (by simpa using h1.symm)
  | 3, h1 => exact hu2 A2 n2 c2 (by simpa using h1.symm)
  | 4, h1 => exact hu2 A3 n3 c3 (by simpa using h1.symm)
  | o + 5, h1 => simp at h1
theorem rc_box {α : Type} {K : Kind α} {w w' : World} {A : Option Addr} {c : Nat} {L : List α} {T : List Nat} (h : RC K w A c L) (hi : Flow.Into T w w') (hT : ∀ b ∈ T, IsBox w b) (hs : Strange K) : RC K w' A c L := rc_into h hi fun y h0 hy hm => rc_off h (hT _ hm) hs y h0 hy rfl
theorem nd_box {w w' : World} {n : Nd} {a : At} {T : List Nat} (h : NdIn w n a) (hi : Flow.Into T w w') (hT : ∀ b ∈ T, IsBox w b) : NdIn w' n a := ⟨rc_box h.kids hi hT strange_kd, rc_box h.piv hi hT strange_st, rc_box h.buf hi hT strange_mg, rc_box h.prs hi hT strange_pr⟩
theorem IsBox.of {w : World} {b : Nat} {v : Int} {A0 A1 A2 A3 : Option Addr} {n0 c0 n1 c1 n2 c2 n3 c3 : Nat} {U : TypeId} (h : w.heap[b]? = some (.cells #[.int .i64 v, .slice A0 n0 c0, .slice A1 n1 c1, .slice A2 n2 c2, .slice A3 n3 c3] U (0, 0))) : IsBox w b := ⟨v, A0, A1, A2, A3, n0, c0, n1, c1, n2, c2, n3, c3, U, h⟩
theorem IsBox.one {w : World} {b : Nat} (h : IsBox w b) : ∀ k ∈ [b], IsBox w k := fun k hk => by
  obtain rfl : k = b := by simpa using hk
  exact h
theorem IsBox.two {w : World} {b d : Nat} (h : IsBox w b) (h' : IsBox w d) : ∀ k ∈ [b, d], IsBox w k := fun k hk => by
  rcases (by simpa using hk : k = b ∨ k = d) with rfl | rfl
  · exact h
  · exact h'
end No
end Go.Proofs.YtgpbioljldkmaaaGreat

namespace Go.Proofs.YtgpbioljldkmaaaGreat
open Go.RowKit
namespace Fa
open Mem Lx Bu
set_option maxRecDepth 100000 in
set_option maxHeartbeats 2000000 in
theorem RSameS_any {W : World} {A A' : Option Addr} {c c' : Nat} {L L' : List ByteArray} (h : SL W A L) (h' : SL W A' L') (hl : L.length ≤ 1048576) (_ : L'.length ≤ 1048576) : Calls Tryz.prog 24 #[.slice A L.length c, .slice A' L'.length c'] W fun e w' => (∃ v : Bool, e = .returned (.bool v) ∧ (v = true ↔ L = L')) ∧ Below W.heap.size W w' := by
  obtain ⟨n, hn⟩ : ∃ n, n = L.length := ⟨_, rfl⟩
  by_cases hnn : L.length = L'.length
  case neg =>
    have HR : Hid (¬ L = L') := fun e => hnn (by rw [e])
    have hd : ((L.length : Int) != (L'.length : Int)) = true := by simp; omega
    clear h h' hn hl
    generalize L.length = n at *
    generalize L'.length = n' at *
    clear hnn
    go_enter Tryz.func24, Tryz.ntmps24
    go_wp2
    go_ret
    exact ⟨⟨false, rfl, by simpa using HR.out⟩, Below.refl _ _⟩
  rw [← hnn, ← hn]
  rw [← hn] at hl
  have HN := Lib.hid hn
  have HN' : Hid (n = L'.length) := hn.trans hnn
  have HH := Lib.hid h
  have HH' := Lib.hid h'
  clear h h' hn hnn
  go_enter Tryz.func24, Tryz.ntmps24
  go_wp2_with fail
  go_loopg [5] n (fun gk iv wr => ∃ k : Nat, k ≤ n ∧ gk = n - k ∧ iv = .int .i64 (k : Int) ∧ Hid (∀ i, i < k → L[i]? = L'[i]?) ∧ Hid (Below W.heap.size W wr))
  case atStart => exact ⟨0, Nat.zero_le _, rfl, rfl, fun i hi => by omega, Below.refl _ _⟩
  case round =>
    obtain ⟨k, hk, rfl, rfl, HE, HB⟩ := hrel
    by_cases hlt : k < n
    · have hj : k < L.length := by rw [← HN.out]; exact hlt
      have hj' : k < L'.length := by rw [← HN'.out]; exact hlt
      obtain ⟨x, hx⟩ : ∃ x, x = L[k] := ⟨_, rfl⟩
      obtain ⟨y, hy⟩ : ∃ y, y = L'[k] := ⟨_, rfl⟩
      have hx' := nat_lenS hj
      have hy' := nat_lenS hj'
      rw [← hx] at hx'
      rw [← hy] at hy'
      obtain ⟨b, o, e, -, c0⟩ := RdK.str (HH.out.kept HB.out) hx'
      subst e
      obtain ⟨b', o', e', -, d0⟩ := RdK.str (HH'.out.kept HB.out) hy'
      subst e'
      have HX := Lib.hid hx'
      have HY := Lib.hid hy'
      by_cases hxy : x = y
      · have hne : (x.toList == y.toList) = true := by rw [ba_toList]; simpa using hxy
        have HE2 : Hid (∀ i, i < k + 1 → L[i]? = L'[i]?) := fun i hi => by
          by_cases e : i = k
          · subst e
            rw [HX.out, HY.out, hxy]
          · exact HE.out i (by omega)
        clear hxy
        have z0 := fun q : Drift.Tide [] wr [] => Drift.Tide.cell c0 (by simp) q
        have x0 := fun q : Drift.Tide [] wr [] => Drift.Tide.cell d0 (by simp) q
        have hw2 : IntKind.i64.wrap ((k : Int) + 1) = ((k + 1 : Nat) : Int) := by rw [IntKind.wrap_i64]; omega
        clear c0 d0 hx hy hx' hy' hj hj'
        go_upto_region 6 with fail
        refine Drift.wp_region_drift [] [(0,[]),(1,[]),(2,[]),(3,[]),(4,[]),(5,[]),(6,[]),(7,[]),(8,[])] [] [] (by kernel_rfl) (by kernel_rfl) (by simp) ?_
        simp only [Drift.pick, Drift.opsAt, List.getElem?_toArray, List.getElem?_cons_zero, List.getElem?_cons_succ, List.cons_append, List.nil_append, List.filterMap_nil]
        repeat (refine Drift.walk_step (fun K hK => ?_); go_simp; (refine hK _ ?_; clear hK K))
        refine Drift.walk_nil ?_
        intro w2 hb _
        have HB2 := Lib.hid (HB.out.trans (hb.mono HB.out.size))
        clear z0 x0 hb HB
        simp only [List.length_cons, List.length_nil, List.drop_succ_cons, List.drop_nil, Nat.zero_add, Nat.reduceAdd]
        go_wp2_with fail
        go_roundg (n - (k + 1))
        case measure => omega
        case rel => exact ⟨k + 1, hlt, rfl, by go_num, HE2, HB2⟩
      · have hne : (x.toList == y.toList) = false := by rw [ba_toList]; simpa using hxy
        have HN2 : Hid (¬ L = L') := fun e => hxy (by
          have h1 := HX.out
          rw [e, HY.out] at h1
          exact (Option.some.inj h1).symm)
        clear hxy
        have z0 := fun q : Drift.Tide [] wr [] => Drift.Tide.cell c0 (by simp) q
        have x0 := fun q : Drift.Tide [] wr [] => Drift.Tide.cell d0 (by simp) q
        have hw2 : IntKind.i64.wrap ((k : Int) + 1) = ((k + 1 : Nat) : Int) := by rw [IntKind.wrap_i64]; omega
        clear c0 d0 hx hy hx' hy' hj hj'
        go_upto_region 6 with fail
        refine Drift.wp_region_drift [] [(0,[]),(1,[]),(2,[]),(3,[]),(4,[]),(5,[]),(6,[]),(7,[]),(8,[])] [] [] (by kernel_rfl) (by kernel_rfl) (by simp) ?_
        simp only [Drift.pick, Drift.opsAt, List.getElem?_toArray, List.getElem?_cons_zero, List.getElem?_cons_succ, List.cons_append, List.nil_append, List.filterMap_nil]
        repeat (refine Drift.walk_step (fun K hK => ?_); go_simp; (refine hK _ ?_; clear hK K))
        refine Drift.walk_nil ?_
        intro w2 hb _
        have HB2 := Lib.hid (HB.out.trans (hb.mono HB.out.size))
        clear z0 x0 hb HB
        simp only [List.length_cons, List.length_nil, List.drop_succ_cons, List.drop_nil, Nat.zero_add, Nat.reduceAdd]
        go_wp2_with fail
        go_ret
        exact ⟨⟨false, rfl, by simpa using HN2.out⟩, HB2.out⟩
    · have HR : Hid (L = L') := by
        refine List.ext_getElem? fun i => ?_
        by_cases hi : i < k
        · exact HE.out i hi
        · rw [List.getElem?_eq_none (by rw [← HN.out]; omega), List.getElem?_eq_none (by rw [← HN'.out]; omega)]
      obtain rfl : k = n := by omega
      clear hlt
      go_wp2_with fail
      go_ret
      exact ⟨⟨true, rfl, by simpa using HR.out⟩, HB.out⟩
end Fa
end Go.Proofs.YtgpbioljldkmaaaGreat

namespace Go.Proofs.YtgpbioljldkmaaaGreat
open Go.RowKit
namespace No
open Mem Lx Bu
open Lf (Pr PrK PL P3 PC)
open Fa (StK SL SC wayS SRise RightS)
theorem nd_eq {n n' : Nd} : n = n' ↔ n.lv = n'.lv ∧ n.kids = n'.kids ∧ n.piv = n'.piv ∧ n.buf = n'.buf ∧ n.prs = n'.prs := by
  obtain ⟨a, b, c, d, e⟩ := n
  obtain ⟨a', b', c', d', e'⟩ := n'
  simp
set_option maxRecDepth 100000 in
set_option maxHeartbeats 4000000 in
theorem RSame_any {W : World} {n n' : Nd} {a a' : At} (h : NdIn W n a) (h' : NdIn W n' a') (hs : Sz n) (hs' : Sz n') : Calls Tryz.prog 13 #[.agg (ndCs n a), .agg (ndCs n' a')] W fun e w' => (∃ v : Bool, e = .returned (.bool v) ∧ (v = true ↔ n = n')) ∧ Below W.heap.size W w' := by
  obtain ⟨b1, hb1⟩ := bool_of (n.kids = n'.kids)
  obtain ⟨b2, hb2⟩ := bool_of (n.piv = n'.piv)
  obtain ⟨b3, hb3⟩ := bool_of (n.buf = n'.buf)
  obtain ⟨b4, hb4⟩ := bool_of (n.prs = n'.prs)
  have c1 : ∀ (W1 : World), Below W.heap.size W W1 → Hid (Calls Tryz.prog 23 #[.slice a.kA n.kids.length a.kc, .slice a'.kA n'.kids.length a'.kc] W1 fun e w' => e = .returned (.bool b1) ∧ Below W1.heap.size W1 w') := fun W1 hb => (RBlocks_any (c := a.kc) (c' := a'.kc) (h.kept hb).kids.1 (h'.kept hb).kids.1 (Nat.le_trans hs.kl (by decide)) (Nat.le_trans hs'.kl (by decide))).mono fun e w' ⟨⟨v, he, hv⟩, hb⟩ => ⟨by rw [he, bool_one hv hb1], hb⟩
  have c2 : ∀ (W1 : World), Below W.heap.size W W1 → Hid (Calls Tryz.prog 24 #[.slice a.pA n.piv.length a.pc, .slice a'.pA n'.piv.length a'.pc] W1 fun e w' => e = .returned (.bool b2) ∧ Below W1.heap.size W1 w') := fun W1 hb => (Fa.RSameS_any (c := a.pc) (c' := a'.pc) (h.kept hb).piv.1 (h'.kept hb).piv.1 (Nat.le_trans hs.pl (by decide)) (Nat.le_trans hs'.pl (by decide))).mono fun e w' ⟨⟨v, he, hv⟩, hb⟩ => ⟨by rw [he, bool_one hv hb2], hb⟩
  have c3 : ∀ (W1 : World), Below W.heap.size W W1 → Hid (Calls Tryz.prog 25 #[.slice a.bA n.buf.length a.bc, .slice a'.bA n'.buf.length a'.bc] W1 fun e w' => e = .returned (.bool b3) ∧ Below W1.heap.size W1 w') := fun W1 hb => (Bu.RSame_any (c := a.bc) (c' := a'.bc) (h.kept hb).buf.1 (h'.kept hb).buf.1 (Nat.le_trans hs.bl (by decide)) (Nat.le_trans hs'.bl (by decide))).mono fun e w' ⟨⟨v, he, hv⟩, hb⟩ => ⟨by rw [he, bool_one hv hb3], hb⟩
  have c4 : ∀ (W1 : World), Below W.heap.size W W1 → Hid (Calls Tryz.prog 26 #[.slice a.qA n.prs.length a.qc, .slice a'.qA n'.prs.length a'.qc] W1 fun e w' => e = .returned (.bool b4) ∧ Below W1.heap.size W1 w') := fun W1 hb => (Lf.RSame_any (c := a.qc) (c' := a'.qc) (h.kept hb).prs.1 (h'.kept hb).prs.1 (Nat.le_trans hs.ql (by decide)) (Nat.le_trans hs'.ql (by decide))).mono fun e w' ⟨⟨v, he, hv⟩, hb⟩ => ⟨by rw [he, bool_one hv hb4], hb⟩
  have HP : Hid (∀ v : Bool, v = (decide (n.lv = n'.lv) && b1 && b2 && b3 && b4) → (v = true ↔ n = n')) := fun v hv => by
    subst hv
    rw [nd_eq, Bool.and_eq_true, Bool.and_eq_true, Bool.and_eq_true, Bool.and_eq_true, hb1, hb2, hb3, hb4, decide_eq_true_iff, and_assoc, and_assoc, and_assoc]
  generalize hPP : (n = n') = PP at *
  clear hPP h h' hs hs' hb1 hb2 hb3 hb4
  obtain ⟨lv, K, P, B, Q⟩ := n
  obtain ⟨kA, kc, pA, pc, bA, bc, qA, qc⟩ := a
  obtain ⟨lv', K', P', B', Q'⟩ := n'
  obtain ⟨kA', kc', pA', pc', bA', bc', qA', qc'⟩ := a'
  unfold ndCs at *
  simp only at *
  generalize K.length = kn at *
  generalize P.length = pn at *
  generalize B.length = bn at *
  generalize Q.length = qn at *
  generalize K'.length = kn' at *
  generalize P'.length = pn' at *
  generalize B'.length = bn' at *
  generalize Q'.length = qn' at *
  go_enter Tryz.func13, Tryz.ntmps13
  go_upto_region 1 with fail
  have h3 := two_new W (.cells #[.int .i64 lv, .slice kA kn kc, .slice pA pn pc, .slice bA bn bc, .slice qA qn qc] 29) (.cells #[.int .i64 lv', .slice kA' kn' kc', .slice pA' pn' pc', .slice bA' bn' bc', .slice qA' qn' qc'] 29)
  generalize (W.alloc (.cells #[.int .i64 lv, .slice kA kn kc, .slice pA pn pc, .slice bA bn bc, .slice qA qn qc] 29)).alloc (.cells #[.int .i64 lv', .slice kA' kn' kc', .slice pA' pn' pc', .slice bA' bn' bc', .slice qA' qn' qc'] 29) = w1 at *
  have HB := Lib.hid h3.2.2
  obtain ⟨g, hg⟩ : ∃ g, g = W.heap.size := ⟨_, rfl⟩
  simp only [← hg]
  have HX : Hid (w1.heap[g]? = some (.cells #[.int .i64 lv, .slice kA kn kc, .slice pA pn pc, .slice bA bn bc, .slice qA qn qc] 29 (0, 0))) := by rw [hg]; exact h3.1
  have HY : Hid (w1.heap[g + 1]? = some (.cells #[.int .i64 lv', .slice kA' kn' kc', .slice pA' pn' pc', .slice bA' bn' bc', .slice qA' qn' qc'] 29 (0, 0))) := by rw [hg]; exact h3.2.1
  clear h3 hg
  obtain ⟨d0, d1, d2, d3, d4⟩ := box5 HX.out
  obtain ⟨e0, e1, e2, e3, e4⟩ := box5 HY.out
  by_cases hlv : lv = lv'
  case neg =>
    have hne : ¬ (lv = lv') := hlv
    go_wp2_with (first
      | (go_at_call 23; refine (c1 _ HB.out).out.mono ?_; rintro e w2 ⟨rfl, hb⟩; replace HB := Lib.hid (HB.out.trans (hb.mono HB.out.size)); replace HX := Lib.hid (kept3 HX.out hb); replace HY := Lib.hid (kept3 HY.out hb); replace d1 := (box5 HX.out).2.1; replace d2 := (box5 HX.out).2.2.1; replace d3 := (box5 HX.out).2.2.2.1; replace d4 := (box5 HX.out).2.2.2.2; replace e1 := (box5 HY.out).2.1; replace e2 := (box5 HY.out).2.2.1; replace e3 := (box5 HY.out).2.2.2.1; replace e4 := (box5 HY.out).2.2.2.2; clear hb)
      | (go_at_call 24; refine (c2 _ HB.out).out.mono ?_; rintro e w2 ⟨rfl, hb⟩; replace HB := Lib.hid (HB.out.trans (hb.mono HB.out.size)); replace HX := Lib.hid (kept3 HX.out hb); replace HY := Lib.hid (kept3 HY.out hb); replace d1 := (box5 HX.out).2.1; replace d2 := (box5 HX.out).2.2.1; replace d3 := (box5 HX.out).2.2.2.1; replace d4 := (box5 HX.out).2.2.2.2; replace e1 := (box5 HY.out).2.1; replace e2 := (box5 HY.out).2.2.1; replace e3 := (box5 HY.out).2.2.2.1; replace e4 := (box5 HY.out).2.2.2.2; clear hb)
      | (go_at_call 25; refine (c3 _ HB.out).out.mono ?_; rintro e w2 ⟨rfl, hb⟩; replace HB := Lib.hid (HB.out.trans (hb.mono HB.out.size)); replace HX := Lib.hid (kept3 HX.out hb); replace HY := Lib.hid (kept3 HY.out hb); replace d1 := (box5 HX.out).2.1; replace d2 := (box5 HX.out).2.2.1; replace d3 := (box5 HX.out).2.2.2.1; replace d4 := (box5 HX.out).2.2.2.2; replace e1 := (box5 HY.out).2.1; replace e2 := (box5 HY.out).2.2.1; replace e3 := (box5 HY.out).2.2.2.1; replace e4 := (box5 HY.out).2.2.2.2; clear hb)
      | (go_at_call 26; refine (c4 _ HB.out).out.mono ?_; rintro e w2 ⟨rfl, hb⟩; replace HB := Lib.hid (HB.out.trans (hb.mono HB.out.size)); replace HX := Lib.hid (kept3 HX.out hb); replace HY := Lib.hid (kept3 HY.out hb); replace d1 := (box5 HX.out).2.1; replace d2 := (box5 HX.out).2.2.1; replace d3 := (box5 HX.out).2.2.2.1; replace d4 := (box5 HX.out).2.2.2.2; replace e1 := (box5 HY.out).2.1; replace e2 := (box5 HY.out).2.2.1; replace e3 := (box5 HY.out).2.2.2.1; replace e4 := (box5 HY.out).2.2.2.2; clear hb))
    go_ret
    exact ⟨⟨false, rfl, HP.out false (by simp [hlv])⟩, HB.out⟩
  subst hlv
  cases b1 with
  | false =>
    go_wp2_with (first
      | (go_at_call 23; refine (c1 _ HB.out).out.mono ?_; rintro e w2 ⟨rfl, hb⟩; replace HB := Lib.hid (HB.out.trans (hb.mono HB.out.size)); replace HX := Lib.hid (kept3 HX.out hb); replace HY := Lib.hid (kept3 HY.out hb); replace d1 := (box5 HX.out).2.1; replace d2 := (box5 HX.out).2.2.1; replace d3 := (box5 HX.out).2.2.2.1; replace d4 := (box5 HX.out).2.2.2.2; replace e1 := (box5 HY.out).2.1; replace e2 := (box5 HY.out).2.2.1; replace e3 := (box5 HY.out).2.2.2.1; replace e4 := (box5 HY.out).2.2.2.2; clear hb)
      | (go_at_call 24; refine (c2 _ HB.out).out.mono ?_; rintro e w2 ⟨rfl, hb⟩; replace HB := Lib.hid (HB.out.trans (hb.mono HB.out.size)); replace HX := Lib.hid (kept3 HX.out hb); replace HY := Lib.hid (kept3 HY.out hb); replace d1 := (box5 HX.out).2.1; replace d2 := (box5 HX.out).2.2.1; replace d3 := (box5 HX.out).2.2.2.1; replace d4 := (box5 HX.out).2.2.2.2; replace e1 := (box5 HY.out).2.1; replace e2 := (box5 HY.out).2.2.1; replace e3 := (box5 HY.out).2.2.2.1; replace e4 := (box5 HY.out).2.2.2.2; clear hb)
      | (go_at_call 25; refine (c3 _ HB.out).out.mono ?_; rintro e w2 ⟨rfl, hb⟩; replace HB := Lib.hid (HB.out.trans (hb.mono HB.out.size)); replace HX := Lib.hid (kept3 HX.out hb); replace HY := Lib.hid (kept3 HY.out hb); replace d1 := (box5 HX.out).2.1; replace d2 := (box5 HX.out).2.2.1; replace d3 := (box5 HX.out).2.2.2.1; replace d4 := (box5 HX.out).2.2.2.2; replace e1 := (box5 HY.out).2.1; replace e2 := (box5 HY.out).2.2.1; replace e3 := (box5 HY.out).2.2.2.1; replace e4 := (box5 HY.out).2.2.2.2; clear hb)
      | (go_at_call 26; refine (c4 _ HB.out).out.mono ?_; rintro e w2 ⟨rfl, hb⟩; replace HB := Lib.hid (HB.out.trans (hb.mono HB.out.size)); replace HX := Lib.hid (kept3 HX.out hb); replace HY := Lib.hid (kept3 HY.out hb); replace d1 := (box5 HX.out).2.1; replace d2 := (box5 HX.out).2.2.1; replace d3 := (box5 HX.out).2.2.2.1; replace d4 := (box5 HX.out).2.2.2.2; replace e1 := (box5 HY.out).2.1; replace e2 := (box5 HY.out).2.2.1; replace e3 := (box5 HY.out).2.2.2.1; replace e4 := (box5 HY.out).2.2.2.2; clear hb))
    go_ret
    exact ⟨⟨false, rfl, HP.out false (by simp)⟩, HB.out⟩
  | true =>
    cases b2 with
    | false =>
      go_wp2_with (first
        | (go_at_call 23; refine (c1 _ HB.out).out.mono ?_; rintro e w2 ⟨rfl, hb⟩; replace HB := Lib.hid (HB.out.trans (hb.mono HB.out.size)); replace HX := Lib.hid (kept3 HX.out hb); replace HY := Lib.hid (kept3 HY.out hb); replace d1 := (box5 HX.out).2.1; replace d2 := (box5 HX.out).2.2.1; replace d3 := (box5 HX.out).2.2.2.1; replace d4 := (box5 HX.out).2.2.2.2; replace e1 := (box5 HY.out).2.1; replace e2 := (box5 HY.out).2.2.1; replace e3 := (box5 HY.out).2.2.2.1; replace e4 := (box5 HY.out).2.2.2.2; clear hb)
        | (go_at_call 24; refine (c2 _ HB.out).out.mono ?_; rintro e w2 ⟨rfl, hb⟩; replace HB := Lib.hid (HB.out.trans (hb.mono HB.out.size)); replace HX := Lib.hid (kept3 HX.out hb); replace HY := Lib.hid (kept3 HY.out hb); replace d1 := (box5 HX.out).2.1; replace d2 := (box5 HX.out).2.2.1; replace d3 := (box5 HX.out).2.2.2.1; replace d4 := (box5 HX.out).2.2.2.2; replace e1 := (box5 HY.out).2.1; replace e2 := (box5 HY.out).2.2.1; replace e3 := (box5 HY.out).2.2.2.1; replace e4 := (box5 HY.out).2.2.2.2; clear hb)
        | (go_at_call 25; refine (c3 _ HB.out).out.mono ?_; rintro e w2 ⟨rfl, hb⟩; replace HB := Lib.hid (HB.out.trans (hb.mono HB.out.size)); replace HX := Lib.hid (kept3 HX.out hb); replace HY := Lib.hid (kept3 HY.out hb); replace d1 := (box5 HX.out).2.1; replace d2 := (box5 HX.out).2.2.1; replace d3 := (box5 HX.out).2.2.2.1; replace d4 := (box5 HX.out).2.2.2.2; replace e1 := (box5 HY.out).2.1; replace e2 := (box5 HY.out).2.2.1; replace e3 := (box5 HY.out).2.2.2.1; replace e4 := (box5 HY.out).2.2.2.2; clear hb)
        | (go_at_call 26; refine (c4 _ HB.out).out.mono ?_; rintro e w2 ⟨rfl, hb⟩; replace HB := Lib.hid (HB.out.trans (hb.mono HB.out.size)); replace HX := Lib.hid (kept3 HX.out hb); replace HY := Lib.hid (kept3 HY.out hb); replace d1 := (box5 HX.out).2.1; replace d2 := (box5 HX.out).2.2.1; replace d3 := (box5 HX.out).2.2.2.1; replace d4 := (box5 HX.out).2.2.2.2; replace e1 := (box5 HY.out).2.1; replace e2 := (box5 HY.out).2.2.1; replace e3 := (box5 HY.out).2.2.2.1; replace e4 := (box5 HY.out).2.2.2.2; clear hb))
      go_ret
      exact ⟨⟨false, rfl, HP.out false (by simp)⟩, HB.out⟩
    | true =>
      cases b3 with
      | false =>
        go_wp2_with (first
          | (go_at_call 23; refine (c1 _ HB.out).out.mono ?_; rintro e w2 ⟨rfl, hb⟩; replace HB := Lib.hid (HB.out.trans (hb.mono HB.out.size)); replace HX := Lib.hid (kept3 HX.out hb); replace HY := Lib.hid (kept3 HY.out hb); replace d1 := (box5 HX.out).2.1; replace d2 := (box5 HX.out).2.2.1; replace d3 := (box5 HX.out).2.2.2.1; replace d4 := (box5 HX.out).2.2.2.2; replace e1 := (box5 HY.out).2.1; replace e2 := (box5 HY.out).2.2.1; replace e3 := (box5 HY.out).2.2.2.1; replace e4 := (box5 HY.out).2.2.2.2; clear hb)
          | (go_at_call 24; refine (c2 _ HB.out).out.mono ?_; rintro e w2 ⟨rfl, hb⟩; replace HB := Lib.hid (HB.out.trans (hb.mono HB.out.size)); replace HX := Lib.hid (kept3 HX.out hb); replace HY := Lib.hid (kept3 HY.out hb); replace d1 := (box5 HX.out).2.1; replace d2 := (box5 HX.out).2.2.1; replace d3 := (box5 HX.out).2.2.2.1; replace d4 := (box5 HX.out).2.2.2.2; replace e1 := (box5 HY.out).2.1; replace e2 := (box5 HY.out).2.2.1; replace e3 := (box5 HY.out).2.2.2.1; replace e4 := (box5 HY.out).2.2.2.2; clear hb)
          | (go_at_call 25; refine (c3 _ HB.out).out.mono ?_; rintro e w2 ⟨rfl, hb⟩; replace HB := Lib.hid (HB.out.trans (hb.mono HB.out.size)); replace HX := Lib.hid (kept3 HX.out hb); replace HY := Lib.hid (kept3 HY.out hb); replace d1 := (box5 HX.out).2.1; replace d2 := (box5 HX.out).2.2.1; replace d3 := (box5 HX.out).2.2.2.1; replace d4 := (box5 HX.out).2.2.2.2; replace e1 := (box5 HY.out).2.1; replace e2 := (box5 HY.out).2.2.1; replace e3 := (box5 HY.out).2.2.2.1; replace e4 := (box5 HY.out).2.2.2.2; clear hb)
          | (go_at_call 26; refine (c4 _ HB.out).out.mono ?_; rintro e w2 ⟨rfl, hb⟩; replace HB := Lib.hid (HB.out.trans (hb.mono HB.out.size)); replace HX := Lib.hid (kept3 HX.out hb); replace HY := Lib.hid (kept3 HY.out hb); replace d1 := (box5 HX.out).2.1; replace d2 := (box5 HX.out).2.2.1; replace d3 := (box5 HX.out).2.2.2.1; replace d4 := (box5 HX.out).2.2.2.2; replace e1 := (box5 HY.out).2.1; replace e2 := (box5 HY.out).2.2.1; replace e3 := (box5 HY.out).2.2.2.1; replace e4 := (box5 HY.out).2.2.2.2; clear hb))
        go_ret
        exact ⟨⟨false, rfl, HP.out false (by simp)⟩, HB.out⟩
      | true =>
        go_wp2_with (first
          | (go_at_call 23; refine (c1 _ HB.out).out.mono ?_; rintro e w2 ⟨rfl, hb⟩; replace HB := Lib.hid (HB.out.trans (hb.mono HB.out.size)); replace HX := Lib.hid (kept3 HX.out hb); replace HY := Lib.hid (kept3 HY.out hb); replace d1 := (box5 HX.out).2.1; replace d2 := (box5 HX.out).2.2.1; replace d3 := (box5 HX.out).2.2.2.1; replace d4 := (box5 HX.out).2.2.2.2; replace e1 := (box5 HY.out).2.1; replace e2 := (box5 HY.out).2.2.1; replace e3 := (box5 HY.out).2.2.2.1; replace e4 := (box5 HY.out).2.2.2.2; clear hb)
          | (go_at_call 24; refine (c2 _ HB.out).out.mono ?_; rintro e w2 ⟨rfl, hb⟩; replace HB := Lib.hid (HB.out.trans (hb.mono HB.out.size)); replace HX := Lib.hid (kept3 HX.out hb); replace HY := Lib.hid (kept3 HY.out hb); replace d1 := (box5 HX.out).2.1; replace d2 := (box5 HX.out).2.2.1; replace d3 := (box5 HX.out).2.2.2.1; replace d4 := (box5 HX.out).2.2.2.2; replace e1 := (box5 HY.out).2.1; replace e2 := (box5 HY.out).2.2.1; replace e3 := (box5 HY.out).2.2.2.1; replace e4 := (box5 HY.out).2.2.2.2; clear hb)
          | (go_at_call 25; refine (c3 _ HB.out).out.mono ?_; rintro e w2 ⟨rfl, hb⟩; replace HB := Lib.hid (HB.out.trans (hb.mono HB.out.size)); replace HX := Lib.hid (kept3 HX.out hb); replace HY := Lib.hid (kept3 HY.out hb); replace d1 := (box5 HX.out).2.1; replace d2 := (box5 HX.out).2.2.1; replace d3 := (box5 HX.out).2.2.2.1; replace d4 := (box5 HX.out).2.2.2.2; replace e1 := (box5 HY.out).2.1; replace e2 := (box5 HY.out).2.2.1; replace e3 := (box5 HY.out).2.2.2.1; replace e4 := (box5 HY.out).2.2.2.2; clear hb)
          | (go_at_call 26; refine (c4 _ HB.out).out.mono ?_; rintro e w2 ⟨rfl, hb⟩; replace HB := Lib.hid (HB.out.trans (hb.mono HB.out.size)); replace HX := Lib.hid (kept3 HX.out hb); replace HY := Lib.hid (kept3 HY.out hb); replace d1 := (box5 HX.out).2.1; replace d2 := (box5 HX.out).2.2.1; replace d3 := (box5 HX.out).2.2.2.1; replace d4 := (box5 HX.out).2.2.2.2; replace e1 := (box5 HY.out).2.1; replace e2 := (box5 HY.out).2.2.1; replace e3 := (box5 HY.out).2.2.2.1; replace e4 := (box5 HY.out).2.2.2.2; clear hb))
        go_ret
        exact ⟨⟨b4, rfl, HP.out b4 (by simp)⟩, HB.out⟩
end No
end Go.Proofs.YtgpbioljldkmaaaGreat

namespace Go.Proofs.YtgpbioljldkmaaaGreat
open Go.RowKit
namespace No
open Mem Lx Bu Lf Fa
theorem rd_block {α : Type} {K : Kind α} {w : World} {g : Nat} {L : List α} {f : Nat × Nat} (h : w.heap[g]? = some (.cells (L.flatMap K.cs).toArray K.T f)) : RdK K w (some ⟨g, 0, none⟩) L := fun _ => by
  refine ⟨g, 0, rfl, (Array.getElem?_eq_some_iff.1 h).1, fun i x hx j u hu => ?_⟩
  have hj : j < K.k := by
    have := (List.getElem?_eq_some_iff.1 hu).1
    rw [K.len] at this
    exact this
  have := K.at_ hx hj
  simp only [World.cell?, h, Nat.zero_add]
  simpa [this] using hu
end No
end Go.Proofs.YtgpbioljldkmaaaGreat

namespace Go.Proofs.YtgpbioljldkmaaaGreat
open Go.RowKit
namespace Fa
open Mem Lx Bu
/-- what stands ahead of place i: the span's front, or the pivot there -/
def ahdS (L : List ByteArray) (lo : ByteArray) : Nat → ByteArray
  | 0 => lo
  | i + 1 => (L[i]?).getD lo
theorem right_iff {L : List ByteArray} {lo hi : ByteArray} {top : Bool} : RightS L lo hi top ↔ ∀ (i : Nat) (x : ByteArray), L[i]? = some x → cmpB (ahdS L lo i) x < 0 ∧ inB lo hi top x = true := by
  constructor
  · rintro ⟨h1, h2⟩ i x hx
    have h3 := h1 x (List.mem_of_getElem? hx)
    refine ⟨?_, h3.1⟩
    cases i with
    | zero =>
      show cmpB lo x < 0
      have h4 := (inB_iff.1 h3.1).1
      rcases cmpB_tri lo x with h5 | h5 | h5
      · exact h5
      · exact absurd h5.symm h3.2
      · have := cmpB_neg lo x
        omega
    | succ i =>
      obtain ⟨y, hy⟩ : ∃ y, L[i]? = some y := ⟨L[i]'(by have := (List.getElem?_eq_some_iff.1 hx).1; omega), List.getElem?_eq_getElem _⟩
      show cmpB ((L[i]?).getD lo) x < 0
      rw [hy]
      exact h2 i y x hy hx
  · intro h
    have hr : SRise L := fun i a b ha hb => by
      have this : cmpB ((L[i]?).getD lo) b < 0 := (h (i + 1) b hb).1
      rw [ha] at this
      exact this
    refine ⟨fun p hp => ?_, hr⟩
    obtain ⟨i, hi⟩ := List.mem_iff_getElem?.1 hp
    refine ⟨(h i p hi).2, ?_⟩
    obtain ⟨x0, h0⟩ : ∃ x0, L[0]? = some x0 := ⟨L[0]'(by have := (List.getElem?_eq_some_iff.1 hi).1; omega), List.getElem?_eq_getElem _⟩
    have h1 := (h 0 _ h0).1
    rcases Nat.eq_zero_or_pos i with rfl | h2
    · rw [hi] at h0
      cases h0
      exact (cmpB_ne h1).symm
    · exact (cmpB_ne (cmpB_trans h1 ((srise_iff.1 hr).at_ h0 hi h2))).symm
set_option maxRecDepth 100000 in
set_option maxHeartbeats 4000000 in
set_option maxRecDepth 100000 in
theorem Right_c {W : World} {A : Option Addr} {c : Nat} {L : List ByteArray} (h : SC W A c L) (lo hi : ByteArray) (top : Bool) (hl : L.length ≤ 1000) : Calls Tryz.prog 90 #[.slice A L.length c, .agg #[.string lo, .string hi, .bool top]] W fun e w' => (∃ v : Bool, e = .returned (.bool v) ∧ (v = true ↔ RightS L lo hi top)) ∧ Below W.heap.size W w' := by
  have HH : Hid (SL W A L) := h.1
  obtain ⟨P, hP⟩ : ∃ P : Prop, P = RightS L lo hi top := ⟨_, rfl⟩
  have HP : Hid (P ↔ ∀ (i : Nat) (x : ByteArray), L[i]? = some x → cmpB (ahdS L lo i) x < 0 ∧ inB lo hi top x = true) := by rw [hP]; exact right_iff
  rw [← hP]
  generalize hn : L.length = n at *
  have HN := Lib.hid hn
  clear h hn hP
  go_enter Tryz.func90, Tryz.ntmps90
  go_upto_region 1 with fail
  have hx := heap_alloc_new W (.cells #[.string lo, .string hi, .bool top] 66)
  have hb0 : Below W.heap.size W (W.alloc (.cells #[.string lo, .string hi, .bool top] 66)) := (Below.refl _ _).alloc (Nat.le_refl _) _
  generalize W.alloc (.cells #[.string lo, .string hi, .bool top] 66) = w1 at *
  obtain ⟨g, hg⟩ : ∃ g, g = W.heap.size := ⟨_, rfl⟩
  rw [← hg] at hx ⊢
  obtain ⟨d0, d1, d2⟩ := box3 hx
  have HX := Lib.hid hx
  have HB := Lib.hid hb0
  clear hx hb0 hg
  go_upto_region 2 with fail
  clear d0 d1 d2
  go_wp2_with fail
  go_loopg [5, 12] n (fun gk av iv wr => ∃ k : Nat, k ≤ n ∧ gk = n - k ∧ av = .string (ahdS L lo k) ∧ iv = .int .i64 (k : Int) ∧ Hid (∀ (i : Nat) (x : ByteArray), i < k → L[i]? = some x → cmpB (ahdS L lo i) x < 0 ∧ inB lo hi top x = true) ∧ Hid (Below W.heap.size W wr ∧ wr.heap[g]? = some (.cells #[.string lo, .string hi, .bool top] 66 (0, 0))))
  case atStart => exact ⟨0, Nat.zero_le _, rfl, rfl, rfl, fun i x hi => by omega, HB.out, HX.out⟩
  case round =>
    clear HB HX
    obtain ⟨k, hkn, rfl, rfl, rfl, HE, HB⟩ := hrel
    by_cases hlt : k < n
    · have hj : k < L.length := by rw [HN.out]; exact hlt
      obtain ⟨x, hx⟩ : ∃ x, x = L[k] := ⟨_, rfl⟩
      have hx' := nat_lenS hj
      rw [← hx] at hx'
      obtain ⟨b, o, e, -, c0⟩ := RdK.str (HH.out.kept HB.out.1) hx'
      subst e
      obtain ⟨d0, d1, d2⟩ := box3 HB.out.2
      have HXX := Lib.hid hx'
      have HA2 : Hid (ahdS L lo (k + 1) = x) := by
        show (L[k]?).getD lo = x
        rw [hx']
        rfl
      have hw : IntKind.i64.wrap ((k : Int) + 1) = ((k + 1 : Nat) : Int) := by rw [IntKind.wrap_i64]; omega
      obtain ⟨a, ha⟩ : ∃ a, a = ahdS L lo k := ⟨_, rfl⟩
      rw [← ha]
      have HAA := Lib.hid ha
      have cC := fun w => Lib.hid (Compare_any a x w)
      have cI := fun w => Lib.hid (In_any lo hi top x w)
      clear hx hx' hj ha
      by_cases hz : cmpB a x < 0
      · have HE2 : Hid (inB lo hi top x = true → ∀ (i : Nat) (y : ByteArray), i < k + 1 → L[i]? = some y → cmpB (ahdS L lo i) y < 0 ∧ inB lo hi top y = true) := fun hin i y hi hy => by
          by_cases e : i = k
          · subst e
            rw [HXX.out] at hy
            cases hy
            exact ⟨by rw [← HAA.out]; exact hz, hin⟩
          · exact HE.out i y (by omega) hy
        have hd : decide (0 ≤ cmpB a x) = false := by simpa using hz
        clear hz
        generalize cmpB a x = z at *
        obtain ⟨t, ht⟩ : ∃ t, t = inB lo hi top x := ⟨_, rfl⟩
        rw [← ht] at cI
        have HT := Lib.hid ht
        clear ht
        cases t with
        | true =>
          go_wp2_with first | (go_at_call 98; refine (cC _).out.mono ?_; rintro e w' ⟨rfl, rfl⟩) | (go_at_call 97; refine (cI _).out.mono ?_; rintro e w' ⟨rfl, hb⟩)
          have HB2 : Hid (Below W.heap.size W w' ∧ w'.heap[g]? = some (.cells #[.string lo, .string hi, .bool top] 66 (0, 0))) := ⟨HB.out.1.trans (hb.mono HB.out.1.size), kept3 HB.out.2 hb⟩
          go_roundg (n - (k + 1))
          case measure => omega
          case rel => exact ⟨k + 1, hlt, rfl, by rw [HA2.out], by go_num, HE2.out HT.out.symm, HB2⟩
        | false =>
          have HF : Hid (¬ P) := fun hp => by
            have := (HP.out.1 hp k x HXX.out).2
            rw [← HT.out] at this
            cases this
          go_wp2_with first | (go_at_call 98; refine (cC _).out.mono ?_; rintro e w' ⟨rfl, rfl⟩) | (go_at_call 97; refine (cI _).out.mono ?_; rintro e w' ⟨rfl, hb⟩)
          go_ret
          exact ⟨⟨false, rfl, by simpa using HF.out⟩, HB.out.1.trans (hb.mono HB.out.1.size)⟩
      · have HF : Hid (¬ P) := fun hp => by
          have := (HP.out.1 hp k x HXX.out).1
          rw [← HAA.out] at this
          exact hz this
        have hd : 0 ≤ cmpB a x := by omega
        clear hz
        generalize cmpB a x = z at *
        go_wp2_with (go_at_call 98; refine (cC _).out.mono ?_; rintro e w' ⟨rfl, rfl⟩)
        go_ret
        exact ⟨⟨false, rfl, by simpa using HF.out⟩, HB.out.1⟩
    · have HT : Hid P := HP.out.2 fun i x hx => HE.out i x (by
        have := (List.getElem?_eq_some_iff.1 hx).1
        rw [HN.out] at this
        omega) hx
      obtain rfl : k = n := by omega
      clear hlt
      go_wp2_with fail
      go_ret
      exact ⟨⟨true, rfl, by simpa using HT.out⟩, HB.out.1⟩
theorem Right_any {W : World} {A : Option Addr} {c : Nat} {L : List ByteArray} (h : SC W A c L) (lo hi : ByteArray) (top : Bool) (_ : lo.size ≤ 1000) (_ : hi.size ≤ 1000) (_ : ∀ m, m ∈ L → m.size ≤ 1000) (hl : L.length ≤ 1000) : Calls Tryz.prog 90 #[.slice A L.length c, .agg #[.string lo, .string hi, .bool top]] W fun e w' => (∃ v : Bool, e = .returned (.bool v) ∧ (v = true ↔ RightS L lo hi top)) ∧ Below W.heap.size W w' := Right_c h lo hi top hl
end Fa
end Go.Proofs.YtgpbioljldkmaaaGreat

namespace Go.Proofs.YtgpbioljldkmaaaGreat
open Go.RowKit
namespace Bu
open Mem Lx
set_option maxRecDepth 100000 in
set_option maxHeartbeats 2000000 in
set_option maxRecDepth 100000 in
theorem Right_any {W : World} {A : Option Addr} {c : Nat} {L : List Mg} (h : ML W A L) (hk : ∀ m, m ∈ L → m.1.size ≤ maxLen) (hl : L.length ≤ 1048576) : Calls Tryz.prog 91 #[.slice A L.length c] W fun e w' => (∃ v : Bool, e = .returned (.bool v) ∧ (v = true ↔ Rise L)) ∧ Below W.heap.size W w' := by
  obtain ⟨n, hn⟩ : ∃ n, n = L.length := ⟨_, rfl⟩
  have HN := Lib.hid hn
  have HH := Lib.hid h
  have HK := Lib.hid hk
  rw [← hn] at hl ⊢
  clear h hk hn
  go_enter Tryz.func91, Tryz.ntmps91
  go_wp2_with fail
  go_loopg [3] (n - 1) (fun gk iv wr => ∃ k : Nat, 1 ≤ k ∧ (k = 1 ∨ k ≤ n) ∧ gk = n - k ∧ iv = .int .i64 (k : Int) ∧ Hid (∀ (i : Nat) (a b : Mg), i + 1 < k → L[i]? = some a → L[i + 1]? = some b → cmpB a.1 b.1 < 0) ∧ Hid (Below W.heap.size W wr))
  case atStart => exact ⟨1, Nat.le_refl _, .inl rfl, rfl, rfl, fun i a b hi => by omega, Below.refl _ _⟩
  case round =>
    obtain ⟨k, hk1, hkn, rfl, rfl, HE, HB⟩ := hrel
    by_cases hlt : k < n
    · obtain ⟨j, hjk⟩ : ∃ j, k = j + 1 := ⟨k - 1, by omega⟩
      have hj : j < L.length := by rw [← HN.out]; omega
      have hj1 : k < L.length := by rw [← HN.out]; omega
      obtain ⟨x, hx⟩ : ∃ x, x = L[j] := ⟨_, rfl⟩
      obtain ⟨y, hy⟩ : ∃ y, y = L[k] := ⟨_, rfl⟩
      have hx' := nat_len hj
      have hy' := nat_len hj1
      rw [← hx] at hx'
      rw [← hy] at hy'
      obtain ⟨b, o, e, hc⟩ := RdK.place (HH.out.kept HB.out) (Nat.lt_of_le_of_lt (Nat.zero_le _) hj)
      subst e
      obtain ⟨c0, -, -⟩ := hc j x hx'
      obtain ⟨c1, -, -⟩ := hc k y hy'
      have cC := fun w => Lib.hid (CCmp x.1 y.1 w)
      have HX := Lib.hid hx'
      have HY := Lib.hid hy'
      have z0 := fun q : Drift.Tide [] wr [] => Drift.Tide.cell c0 (by simp) q
      have z1 := fun q : Drift.Tide [] wr [] => Drift.Tide.cell c1 (by simp) q
      have hw1 : IntKind.i64.wrap ((k : Int) - 1) = (j : Int) := by rw [IntKind.wrap_i64]; omega
      have hw2 : IntKind.i64.wrap ((k : Int) + 1) = ((k + 1 : Nat) : Int) := by rw [IntKind.wrap_i64]; omega
      have HJ := Lib.hid hjk
      have hjn : j < n := by omega
      clear hc c0 c1 hx hy hx' hy' hj hj1 hjk
      go_upto_region 4 with fail
      refine Drift.wp_region_drift [] [(0,[]),(1,[]),(2,[]),(3,[]),(4,[]),(5,[]),(6,[]),(7,[]),(8,[]),(9,[]),(10,[]),(11,[]),(12,[])] [] [] (by kernel_rfl) (by kernel_rfl) (by simp) ?_
      simp only [Drift.pick, Drift.opsAt, List.getElem?_toArray, List.getElem?_cons_zero, List.getElem?_cons_succ, List.cons_append, List.nil_append, List.filterMap_nil]
      repeat (refine Drift.walk_step (fun K hK => ?_); go_simp; first | (refine hK _ ?_; clear hK K) | (apply Exists.intro; refine ⟨fun q => ?_, hK _ ?_⟩; (go_at_call 98; exact (cC _).out); clear hK K))
      refine Drift.walk_nil ?_
      intro w2 hb _
      have HB2 := Lib.hid (HB.out.trans (hb.mono HB.out.size))
      clear z0 z1 hw1 hb HB cC
      simp only [List.length_cons, List.length_nil, List.drop_succ_cons, List.drop_nil, Nat.zero_add, Nat.reduceAdd]
      by_cases hcm : cmpB x.1 y.1 < 0
      · have hd : decide (0 ≤ cmpB x.1 y.1) = false := by simpa using hcm
        have HE2 : Hid (∀ (i : Nat) (a b : Mg), i + 1 < k + 1 → L[i]? = some a → L[i + 1]? = some b → cmpB a.1 b.1 < 0) := fun i a b hi ha hb => by
          by_cases e : i = j
          · subst e
            rw [HX.out] at ha
            rw [← HJ.out, HY.out] at hb
            cases ha
            cases hb
            exact hcm
          · exact HE.out i a b (by have := HJ.out; omega) ha hb
        generalize cmpB x.1 y.1 = z at *
        clear hd
        go_wp2_with fail
        go_roundg (n - (k + 1))
        case measure => omega
        case rel => exact ⟨k + 1, by omega, .inr hlt, rfl, by go_num, HE2, HB2⟩
      · have HN2 : Hid (¬ Rise L) := fun hr => hcm (hr j x y HX.out (by rw [← HJ.out]; exact HY.out))
        have hd : 0 ≤ cmpB x.1 y.1 := by omega
        clear hcm
        generalize cmpB x.1 y.1 = z at *
        go_wp2_with fail
        go_ret
        exact ⟨⟨false, rfl, by simpa using HN2.out⟩, HB2.out⟩
    · have HR : Hid (Rise L) := fun i a b ha hb => HE.out i a b (by
        have := (List.getElem?_eq_some_iff.1 hb).1
        rw [← HN.out] at this
        omega) ha hb
      have hge : n ≤ k := by omega
      have hd : decide ((k : Int) < (n : Int)) = false := by simp; omega
      clear hlt
      go_wp2_with fail
      go_ret
      exact ⟨⟨true, rfl, by simpa using HR.out⟩, HB.out⟩
end Bu
end Go.Proofs.YtgpbioljldkmaaaGreat

namespace Go.Proofs.YtgpbioljldkmaaaGreat
open Go.RowKit
namespace Lf
open Mem Lx Bu
set_option maxRecDepth 100000 in
set_option maxHeartbeats 2000000 in
set_option maxRecDepth 100000 in
theorem Right_any {W : World} {A : Option Addr} {c : Nat} {L : List Pr} (h : PL W A L) (hl : L.length ≤ 1048576) : Calls Tryz.prog 86 #[.slice A L.length c] W fun e w' => (∃ v : Bool, e = .returned (.bool v) ∧ (v = true ↔ PRise L)) ∧ Below W.heap.size W w' := by
  obtain ⟨n, hn⟩ : ∃ n, n = L.length := ⟨_, rfl⟩
  have HN := Lib.hid hn
  have HH := Lib.hid h
  rw [← hn] at hl ⊢
  clear h hn
  go_enter Tryz.func86, Tryz.ntmps86
  go_wp2_with fail
  go_loopg [3] (n - 1) (fun gk iv wr => ∃ k : Nat, 1 ≤ k ∧ (k = 1 ∨ k ≤ n) ∧ gk = n - k ∧ iv = .int .i64 (k : Int) ∧ Hid (∀ (i : Nat) (a b : Pr), i + 1 < k → L[i]? = some a → L[i + 1]? = some b → cmpB a.1 b.1 < 0) ∧ Hid (Below W.heap.size W wr))
  case atStart => exact ⟨1, Nat.le_refl _, .inl rfl, rfl, rfl, fun i a b hi => by omega, Below.refl _ _⟩
  case round =>
    obtain ⟨k, hk1, hkn, rfl, rfl, HE, HB⟩ := hrel
    by_cases hlt : k < n
    · obtain ⟨j, hjk⟩ : ∃ j, k = j + 1 := ⟨k - 1, by omega⟩
      have hj : j < L.length := by rw [← HN.out]; omega
      have hj1 : k < L.length := by rw [← HN.out]; omega
      obtain ⟨x, hx⟩ : ∃ x, x = L[j] := ⟨_, rfl⟩
      obtain ⟨y, hy⟩ : ∃ y, y = L[k] := ⟨_, rfl⟩
      have hx' := nat_len hj
      have hy' := nat_len hj1
      rw [← hx] at hx'
      rw [← hy] at hy'
      obtain ⟨b, o, e, hc⟩ := RdK.pplace (HH.out.kept HB.out) (Nat.lt_of_le_of_lt (Nat.zero_le _) hj)
      subst e
      obtain ⟨c0, -⟩ := hc j x hx'
      obtain ⟨c1, -⟩ := hc k y hy'
      have cC := fun w => Lib.hid (CCmp x.1 y.1 w)
      have HX := Lib.hid hx'
      have HY := Lib.hid hy'
      have z0 := fun q : Drift.Tide [] wr [] => Drift.Tide.cell c0 (by simp) q
      have z1 := fun q : Drift.Tide [] wr [] => Drift.Tide.cell c1 (by simp) q
      have hw1 : IntKind.i64.wrap ((k : Int) - 1) = (j : Int) := by rw [IntKind.wrap_i64]; omega
      have hw2 : IntKind.i64.wrap ((k : Int) + 1) = ((k + 1 : Nat) : Int) := by rw [IntKind.wrap_i64]; omega
      have HJ := Lib.hid hjk
      have hjn : j < n := by omega
      clear hc c0 c1 hx hy hx' hy' hj hj1 hjk
      go_upto_region 4 with fail
      refine Drift.wp_region_drift [] [(0,[]),(1,[]),(2,[]),(3,[]),(4,[]),(5,[]),(6,[]),(7,[]),(8,[]),(9,[]),(10,[]),(11,[]),(12,[])] [] [] (by kernel_rfl) (by kernel_rfl) (by simp) ?_
      simp only [Drift.pick, Drift.opsAt, List.getElem?_toArray, List.getElem?_cons_zero, List.getElem?_cons_succ, List.cons_append, List.nil_append, List.filterMap_nil]
      repeat (refine Drift.walk_step (fun K hK => ?_); go_simp; first | (refine hK _ ?_; clear hK K) | (apply Exists.intro; refine ⟨fun q => ?_, hK _ ?_⟩; (go_at_call 98; exact (cC _).out); clear hK K))
      refine Drift.walk_nil ?_
      intro w2 hb _
      have HB2 := Lib.hid (HB.out.trans (hb.mono HB.out.size))
      clear z0 z1 hw1 hb HB cC
      simp only [List.length_cons, List.length_nil, List.drop_succ_cons, List.drop_nil, Nat.zero_add, Nat.reduceAdd]
      by_cases hcm : cmpB x.1 y.1 < 0
      · have hd : decide (0 ≤ cmpB x.1 y.1) = false := by simpa using hcm
        have HE2 : Hid (∀ (i : Nat) (a b : Pr), i + 1 < k + 1 → L[i]? = some a → L[i + 1]? = some b → cmpB a.1 b.1 < 0) := fun i a b hi ha hb => by
          by_cases e : i = j
          · subst e
            rw [HX.out] at ha
            rw [← HJ.out, HY.out] at hb
            cases ha
            cases hb
            exact hcm
          · exact HE.out i a b (by have := HJ.out; omega) ha hb
        generalize cmpB x.1 y.1 = z at *
        clear hd
        go_wp2_with fail
        go_roundg (n - (k + 1))
        case measure => omega
        case rel => exact ⟨k + 1, by omega, .inr hlt, rfl, by go_num, HE2, HB2⟩
      · have HN2 : Hid (¬ PRise L) := fun hr => hcm (hr j x y HX.out (by rw [← HJ.out]; exact HY.out))
        have hd : 0 ≤ cmpB x.1 y.1 := by omega
        clear hcm
        generalize cmpB x.1 y.1 = z at *
        go_wp2_with fail
        go_ret
        exact ⟨⟨false, rfl, by simpa using HN2.out⟩, HB2.out⟩
    · have HR : Hid (PRise L) := fun i a b ha hb => HE.out i a b (by
        have := (List.getElem?_eq_some_iff.1 hb).1
        rw [← HN.out] at this
        omega) ha hb
      have hge : n ≤ k := by omega
      have hd : decide ((k : Int) < (n : Int)) = false := by simp; omega
      clear hlt
      go_wp2_with fail
      go_ret
      exact ⟨⟨true, rfl, by simpa using HR.out⟩, HB.out⟩
end Lf
end Go.Proofs.YtgpbioljldkmaaaGreat

namespace Go.Proofs.YtgpbioljldkmaaaGreat
open Go.RowKit
namespace Pq
open Mem Hp
def nV (x : Nat) : Value := .int .u32 (x : Int)
set_option maxRecDepth 100000 in
theorem isNaN_any (x : Int) (w : World) : Calls Tryz.prog 125 #[.int .u32 x] w fun e w' => e = .returned (.bool false) ∧ w = w' := by
  go_enter Tryz.func125, Tryz.ntmps125
  go_wp2
  go_ret
  exact ⟨by simp, rfl⟩
set_option maxRecDepth 100000 in
theorem Less_any (x y : Nat) (w : World) : Calls Tryz.prog 114 #[.int .u32 (x : Int), .int .u32 (y : Int)] w fun e w' => e = .returned (.bool (decide (x < y))) ∧ w = w' := by
  have cN := fun x => Lib.hid (isNaN_any x w)
  go_enter Tryz.func114, Tryz.ntmps114
  go_wp2_with (go_at_call 125; refine (cN _).out.mono ?_; rintro e w' ⟨rfl, rfl⟩)
  all_goals go_ret
  all_goals exact ⟨by simp_all, rfl⟩
theorem Less_is {x y : Nat} {t : Bool} (h : t = true ↔ x < y) (w : World) : Calls Tryz.prog 114 #[.int .u32 (x : Int), .int .u32 (y : Int)] w fun e w' => e = .returned (.bool t) ∧ w = w' := by
  have e : decide (x < y) = t := by
    cases t
    · simp only [Bool.false_eq_true, false_iff] at h
      exact decide_eq_false h
    · exact decide_eq_true (h.1 rfl)
  rw [← e]
  exact Less_any x y w
theorem below_dn (w : World) (m : Nat) : Below w.heap.size w (w.drewN m) := ⟨rfl, rfl, rfl, Nat.le_refl _, fun _ _ => rfl⟩
/-- the row in block g: l was turned into L within a to b -/
structure US (w wr : World) (g c n : Nat) (l L : List Nat) (a b : Nat) : Prop where
  ow : Ow 59 wr g c (L.map nV)
  mv : Mvd l L a b
  hi : Flow.Into [g] w wr
  le : l.length = n
section
variable {w wr w' : World} {g c n i j a b : Nat} {l L : List Nat}
theorem US.start (h : Ow 59 w g c (l.map nV)) (hl : l.length = n) (a b : Nat) : US w w g c n l l a b := ⟨h, Mvd.refl _ _ _, Flow.Into.refl _ _, hl⟩
theorem US.len (h : US w wr g c n l L a b) : L.length = n := by rw [h.mv.len, h.le]
theorem US.kept (h : US w wr g c n l L a b) (hb : Below wr.heap.size wr w') : US w w' g c n l L a b := ⟨h.ow.kept hb, h.mv, h.hi.trans (Flow.Into.of_below hb), h.le⟩
theorem US.drew (h : US w wr g c n l L a b) (m : Nat) : US w (wr.drewN m) g c n l L a b := h.kept (below_dn wr m)
theorem US.cell (h : US w wr g c n l L a b) (hi : i < n) : wr.cell? ⟨g, i, none⟩ = some (.int .u32 ((gt L i : Nat) : Int)) := by
  have hl := h.len
  rw [h.ow.cell (by rw [List.length_map, hl]; exact hi)]
  simp [nV, gt, hl, hi]
theorem US.free (h : US w wr g c n l L a b) (i : Nat) : wr.frozen? ⟨g, i, none⟩ = false := h.ow.free i
theorem US.swap (h : US w wr g c n l L a b) (hb : b ≤ n) (hi : a ≤ i) (hi2 : i < b) (hj : a ≤ j) (hj2 : j < b) : US w ((wr.setCell ⟨g, i, none⟩ (.int .u32 ((gt L j : Nat) : Int))).setCell ⟨g, j, none⟩ (.int .u32 ((gt L i : Nat) : Int))) g c n l (swp L i j) a b := by
  obtain ⟨o1, i1⟩ := h.ow.set i (.int .u32 ((gt L j : Nat) : Int))
  obtain ⟨o2, i2⟩ := o1.set j (.int .u32 ((gt L i : Nat) : Int))
  refine ⟨?_, h.mv.swap (by rw [h.le]; exact hb) hi hi2 hj hj2, (h.hi.trans i1).trans i2, h.le⟩
  have e : ((L.map nV).set i (.int .u32 ((gt L j : Nat) : Int))).set j (.int .u32 ((gt L i : Nat) : Int)) = (swp L i j).map nV := by
    unfold swp
    rw [List.map_set, List.map_set]; rfl
  rw [← e]
  exact o2
theorem US.wide {a' b' : Nat} (h : US w wr g c n l L a b) (ha : a' ≤ a) (hb : b ≤ b') : US w wr g c n l L a' b' := ⟨h.ow, h.mv.mono ha hb, h.hi, h.le⟩
theorem US.then_ {M : List Nat} {w2 : World} {m : Nat} (h : US w wr g c n l L a b) (k : US wr w2 g c m L M a b) : US w w2 g c n l M a b := ⟨k.ow, h.mv.trans k.mv, h.hi.trans k.hi, h.le⟩
end
end Pq
end Go.Proofs.YtgpbioljldkmaaaGreat

namespace Go.Proofs.YtgpbioljldkmaaaGreat
open Go.RowKit
namespace Pq
open Mem Hp
set_option maxRecDepth 100000 in
set_option maxHeartbeats 4000000 in
theorem insertion_any {w : World} {g c n a b : Nat} {l : List Nat} (h : Ow 59 w g c (l.map nV)) (hl : l.length = n) (hab : a ≤ b) (hbn : b ≤ n) (hn : n ≤ 1000) : Calls Tryz.prog 108 #[.slice (some ⟨g, 0, none⟩) n c, .int .i64 (a : Int), .int .i64 (b : Int)] w fun e w' => e = .returned (.tuple #[]) ∧ ∃ L, US w w' g c n l L a b ∧ Adj L a b := by
  have H0 := Lib.hid (US.start h hl a b)
  have hw0 : IntKind.i64.wrap ((a : Int) + 1) = ((a + 1 : Nat) : Int) := by rw [IntKind.wrap_i64]; omega
  clear h hl
  go_enter Tryz.func108, Tryz.ntmps108
  go_wp2_with fail
  go_loopg [6] (b - (a + 1)) (fun gk iv wr => ∃ (k : Nat) (L : List Nat), a + 1 ≤ k ∧ gk = b - k ∧ iv = .int .i64 (k : Int) ∧ Hid (k ≤ 1001) ∧ Hid (US w wr g c n l L a b) ∧ Hid (Adj L a k))
  case atStart => exact ⟨a + 1, l, Nat.le_refl _, rfl, by go_num, Lib.hid (by omega), H0, fun i h1 h2 => by omega⟩
  case round =>
    obtain ⟨k, L, k0, rfl, rfl, K1, HO, HA⟩ := hrel
    clear H0 hw0
    by_cases hk : k < b
    · go_upto_block 1 with fail
      go_cut [6] (fun iv wx => iv = .int .i64 (k : Int) ∧ Hid (∃ L, US w wx g c n l L a b ∧ Adj L a (k + 1)))
      case first =>
        obtain ⟨wo, rfl⟩ : ∃ wo : World, wo = wr := ⟨_, rfl⟩
        have HI := Lib.hid (Ins.start HA.out)
        clear HA
        go_wp2_with fail
        go_loopg [7] k (fun gk jv wx => ∃ (j : Nat) (L : List Nat), j ≤ k ∧ a ≤ j ∧ gk = j ∧ jv = .int .i64 (j : Int) ∧ Hid (US w wx g c n l L a b) ∧ Hid (Ins L a k j))
        case atStart => exact ⟨k, L, Nat.le_refl _, by omega, rfl, rfl, HO, HI⟩
        case round =>
          obtain ⟨j, L, hj, haj, hgk, rfl, HS, HI⟩ := hrel
          replace hgk := hgk.symm
          subst hgk
          clear HO
          obtain ⟨wx, rfl⟩ : ∃ wx : World, wx = wr := ⟨_, rfl⟩
          by_cases hja : j = a
          · have HZ : Hid (∃ L, US w wx g c n l L a b ∧ Adj L a (k + 1)) := ⟨L, HS.out, HI.out.stop (.inl (by omega))⟩
            subst hja
            clear HS HI
            go_upto_region 4 with fail
            go_quiet (fail)
            go_wp2_with fail
            go_meet
            obtain ⟨L, h1, h2⟩ := HZ.out
            exact ⟨rfl, L, h1.drew _, h2⟩
          · obtain ⟨k1, hk1⟩ : ∃ k1, j = k1 + 1 := ⟨j - 1, by omega⟩
            have hg0 : a < j := by omega
            have hjb : j < b := by omega
            have hjn : j < n := by omega
            have hkn : k1 < n := by omega
            have hak : a ≤ k1 := by omega
            have hkb : k1 < b := by omega
            have hw1 : IntKind.i64.wrap ((j : Int) - 1) = (k1 : Int) := by rw [IntKind.wrap_i64]; omega
            have hne : j ≠ k1 := by omega
            have hne' : k1 ≠ j := by omega
            have HJ := Lib.hid hk1
            have d1 := HS.out.cell hjn
            have d2 := HS.out.cell hkn
            by_cases hxy : gt L j < gt L k1
            · have cL := fun w => Lib.hid (Less_is (t := true) (x := gt L j) (y := gt L k1) (by simpa using hxy) w)
              have HI2 : Hid (Ins (swp L j k1) a k k1) := by
                have := HI.out
                subst hk1
                exact this.step hak hj (by rw [HS.out.len]; omega) hxy
              clear hja hk1 hxy HI
              go_upto_region 4 with fail
              go_quiet ((go_at_call 114; exact Calls.quiet_of_same ((cL _).out.mono fun e w' ⟨he, hw⟩ => ⟨he, hw.symm⟩)))
              go_upto_region 6 with fail
              have HSq := Lib.hid (HS.out.drew nq)
              clear HS d1 d2 cL
              generalize wx.drewN nq = wx at *
              have HS := HSq
              clear HSq
              go_upto_region 6 with fail
              have x0 := fun t : Drift.Tide [] wx [] => Drift.Tide.cell (HS.out.cell hjn) (by simp) t
              have x1 := fun t : Drift.Tide [] wx [] => Drift.Tide.cell (HS.out.cell hkn) (by simp) t
              refine Drift.wp_region_drift_late [] [(0,[]),(1,[]),(2,[]),(3,[]),(4,[]),(5,[]),(6,[]),(7,[]),(8,[]),(9,[]),(10,[]),(11,[]),(12,[]),(13,[]),(14,[])] [] [] [2, 3, 4] (by kernel_rfl) (by kernel_rfl) (by simp) ?_
              simp only [Drift.pick, Drift.opsAt, List.getElem?_toArray, List.getElem?_cons_zero, List.getElem?_cons_succ, List.cons_append, List.nil_append, List.filterMap_nil]
              repeat (refine Drift.walk_step (fun K hK => ?_); go_simp; (refine hK _ ?_; clear hK K))
              refine Drift.walk_clear rfl (.slice (some ⟨g, 0, none⟩) n c) (fun W => by go_simp) ?_
              refine Drift.walk_clear rfl (.int .i64 (j : Int)) (fun W => by go_simp) ?_
              refine Drift.walk_clear rfl (.int .i64 (k1 : Int)) (fun W => by go_simp) ?_
              repeat (refine Drift.walk_step (fun K hK => ?_); go_simp; (refine hK _ ?_; clear hK K))
              refine Drift.walk_nil ?_
              intro w6 hb6 _
              clear x0 x1
              have h6 := HS.out.kept hb6
              have f := h6.free
              have e1 := h6.cell hjn
              have e2 := h6.cell hkn
              have H7 := Lib.hid (h6.swap hbn haj hjb hak hkb)
              clear h6 hb6 HS
              simp only [List.length_cons, List.length_nil, List.drop_succ_cons, List.drop_zero, Nat.zero_add, Nat.reduceAdd]
              go_wp2_with fail
              rw [Flow.Nrm_normal]
              clear e1 e2 f
              generalize (w6.setCell ⟨g, j, none⟩ (.int .u32 ((gt L k1 : Nat) : Int))).setCell ⟨g, k1, none⟩ (.int .u32 ((gt L j : Nat) : Int)) = w7 at *
              go_wp2_with fail
              go_roundg k1
              case measure => have := HJ.out; omega
              case rel => exact ⟨k1, _, by have := HJ.out; omega, by have := HJ.out; omega, rfl, rfl, H7, HI2⟩
            · have cL := fun w => Lib.hid (Less_is (t := false) (x := gt L j) (y := gt L k1) (by simpa using hxy) w)
              have HZ : Hid (∃ L, US w (wx.drewN 0) g c n l L a b ∧ Adj L a (k + 1)) := ⟨L, HS.out.drew 0, HI.out.stop (.inr (by rw [show j - 1 = k1 by omega]; omega))⟩
              clear hja hk1 hxy HI
              go_upto_region 4 with fail
              go_quiet ((go_at_call 114; exact Calls.quiet_of_same ((cL _).out.mono fun e w' ⟨he, hw⟩ => ⟨he, hw.symm⟩)))
              go_wp2_with fail
              go_meet
              obtain ⟨L, h1, h2⟩ := HZ.out
              exact ⟨rfl, L, (h1.drew _), h2⟩
      case rest =>
      obtain ⟨rfl, HC⟩ := hcut
      obtain ⟨L', h1, h2⟩ := HC.out
      have HO2 := Lib.hid h1
      have HA2 := Lib.hid h2
      clear HC h1 h2 HO HA
      have hw1 : IntKind.i64.wrap ((k : Int) + 1) = ((k + 1 : Nat) : Int) := by rw [IntKind.wrap_i64]; omega
      go_wp2_with fail
      go_roundg (b - (k + 1))
      case measure => omega
      case rel => exact ⟨k + 1, L', by omega, rfl, by go_num, Lib.hid (by omega), HO2, HA2⟩
    · have HE : Hid (Adj L a b) := fun i h1 h2 => HA.out i h1 (by omega)
      go_wp2_with fail
      go_end0
      exact ⟨rfl, L, HO.out, HE.out⟩
end Pq
end Go.Proofs.YtgpbioljldkmaaaGreat
