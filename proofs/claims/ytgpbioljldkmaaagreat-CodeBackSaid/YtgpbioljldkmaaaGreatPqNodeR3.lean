/-
  NodeR3. Put together by pack.py.
-/
import Derived.Test.YtgpbioljldkmaaaGreatPqNodeR2

namespace Go.Proofs.YtgpbioljldkmaaaGreat
open Go.RowKit
namespace No
open Mem Lx Bu Lf Fa
set_option maxRecDepth 100000 in
set_option maxHeartbeats 8000000 in
theorem RRight_sz {W : World} (c : Cfg) (lo hi : ByteArray) (top : Bool) {n : Nd} {a : At} (h : NdIn W n a) (hf : Sz n) (hkid : ∀ k, k ∈ n.kids → k < 4294967296) (hlo : lo.size ≤ maxLen) : Calls Tryz.prog 27 #[.agg (cfCs c), spanV lo hi top, .agg (ndCs n a)] W fun e w' => (∃ v : Bool, e = .returned (.bool v) ∧ (v = true ↔ RightN c lo hi top n)) ∧ Below W.heap.size W w' := by
  obtain ⟨r, hr⟩ := bool_of (OuterP c lo hi top n)
  obtain ⟨s, hs⟩ := bool_of (InnerP c lo hi top n)
  have c1 : ∀ w, Below W.heap.size W w → Hid (Calls Tryz.prog 54 #[.agg (cfCs c), spanV lo hi top, .agg (ndCs n a)] w fun e w' => e = .returned (.bool r) ∧ Below w.heap.size w w') := fun w hb => (Router_sz c lo hi top (h.kept hb) hf hlo).mono fun e w' ⟨⟨v, he, hv⟩, hb⟩ => ⟨by rw [he, bool_one hv hr], hb⟩
  have c2 : ∀ w, Below W.heap.size W w → Hid (Calls Tryz.prog 55 #[.agg (cfCs c), spanV lo hi top, .agg (ndCs n a)] w fun e w' => e = .returned (.bool s) ∧ Below w.heap.size w w') := fun w hb => (Rinner_sz c lo hi top (h.kept hb) hf hkid hlo).mono fun e w' ⟨⟨v, he, hv⟩, hb⟩ => ⟨by rw [he, bool_one hv hs], hb⟩
  obtain ⟨P, hP⟩ : ∃ P : Prop, P = RightN c lo hi top n := ⟨_, rfl⟩
  have H0 : Hid (n.lv = 0 → (r = true ↔ P)) := fun e => by
    rw [hP, hr]
    exact ⟨fun h => ⟨fun _ => h, fun h2 => absurd e h2⟩, fun h => h.1 e⟩
  have H1 : Hid (0 < n.lv → (s = true ↔ P)) := fun e => by
    rw [hP, hs]
    exact ⟨fun h => ⟨fun h2 => absurd h2 (by omega), fun _ => ⟨e, h⟩⟩, fun h => (h.2 (by omega)).2⟩
  have H2 : Hid (n.lv < 0 → ¬ P) := fun e h => by
    rw [hP] at h
    have := (h.2 (by omega)).1
    omega
  rw [← hP]
  clear hP hr hs h hf hkid hlo
  obtain ⟨lv, K, L, B, Q⟩ := n
  obtain ⟨kA, kc, pA, pc, bA, bc, qA, qc⟩ := a
  obtain ⟨cB, cY, cF, cN, cU, cL, cKy, cV⟩ := c
  unfold ndCs cfCs at *
  simp only at *
  generalize K.length = kn at *
  generalize L.length = pn at *
  generalize B.length = bn at *
  generalize Q.length = qn at *
  go_enter Tryz.func27, Tryz.ntmps27
  go_upto_region 1 with fail
  have HB := Lib.hid (B3.new W (.cells #[.int .i64 cB, .int .i64 cY, .int .i64 cF, .int .i64 cN, .int .i64 cU, .int .i64 cL, .int .i64 cKy, .int .i64 cV] 23) (.cells #[.string lo, .string hi, .bool top] 66) (.cells #[.int .i64 lv, .slice kA kn kc, .slice pA pn pc, .slice bA bn bc, .slice qA qn qc] 29))
  generalize ((W.alloc (.cells #[.int .i64 cB, .int .i64 cY, .int .i64 cF, .int .i64 cN, .int .i64 cU, .int .i64 cL, .int .i64 cKy, .int .i64 cV] 23)).alloc (.cells #[.string lo, .string hi, .bool top] 66)).alloc (.cells #[.int .i64 lv, .slice kA kn kc, .slice pA pn pc, .slice bA bn bc, .slice qA qn qc] 29) = w1 at *
  obtain ⟨g, hg⟩ : ∃ g, g = W.heap.size := ⟨_, rfl⟩
  rw [← hg] at HB
  simp only [← hg]
  clear hg
  obtain ⟨d0, d1, d2, d3, d4⟩ := box5 HB.out.z
  obtain ⟨e0, e1, e2⟩ := box3 HB.out.y
  obtain ⟨g0, g1, g2, g3, g4, g5, g6, g7⟩ := box8 HB.out.x
  have HBW := Lib.hid HB.out.below
  clear HB
  rcases Int.lt_trichotomy lv 0 with hl | hl | hl
  · have HNO := Lib.hid (H2.out hl)
    have t0 : (lv == 0) = false := by simp; omega
    have t1 : decide (0 < lv) = false := by simp; omega
    clear H0 H1 H2 hl
    go_wp2_with fail
    go_ret
    exact ⟨⟨false, rfl, (fun h => by cases h), fun h => absurd h HNO.out⟩, HBW.out⟩
  · have HR := Lib.hid (H0.out hl)
    subst hl
    clear H0 H1 H2
    go_wp2_with (go_at_call 54; refine (c1 _ HBW.out).out.mono ?_; rintro e w3 ⟨rfl, hb⟩)
    go_ret
    exact ⟨⟨r, rfl, HR.out⟩, HBW.out.trans (hb.mono HBW.out.size)⟩
  · have HR := Lib.hid (H1.out hl)
    have t0 : (lv == 0) = false := by simp; omega
    clear H0 H1 H2
    go_wp2_with (go_at_call 55; refine (c2 _ HBW.out).out.mono ?_; rintro e w3 ⟨rfl, hb⟩)
    go_ret
    exact ⟨⟨s, rfl, HR.out⟩, HBW.out.trans (hb.mono HBW.out.size)⟩
theorem RRight_any {W : World} (c : Cfg) (lo hi : ByteArray) (top : Bool) {n : Nd} {a : At} (h : NdIn W n a) (hf : Fit n) (hkid : ∀ k, k ∈ n.kids → k < 4294967296) (hlo : lo.size ≤ maxLen) : Calls Tryz.prog 27 #[.agg (cfCs c), spanV lo hi top, .agg (ndCs n a)] W fun e w' => (∃ v : Bool, e = .returned (.bool v) ∧ (v = true ↔ RightN c lo hi top n)) ∧ Below W.heap.size W w' := RRight_sz c lo hi top h ⟨fun p hp => Nat.le_trans (hf.pk p hp) (by decide), fun m hm => Nat.le_trans (hf.bk m hm) (by decide), fun m hm => Nat.le_trans (hf.qk m hm) (by decide), Nat.le_trans hf.kids (by decide), Nat.le_trans hf.piv (by decide), Nat.le_trans hf.buf (by decide), Nat.le_trans hf.prs (by decide)⟩ hkid hlo
end No
end Go.Proofs.YtgpbioljldkmaaaGreat
