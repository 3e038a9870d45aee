/-
  PourLaw. Put together by pack.py.
-/
import Derived.Test.YtlabbmfiecbigaaPqPourC3
import Derived.Test.YtlabbmfiecbigaaPkAM
import Derived.Test.YtlabbmfiecbigaaPqPourR4
import Derived.Test.YtlabbmfiecbigaaPkBB
import Derived.Test.YtlabbmfiecbigaaPkAI
import Derived.Test.YtlabbmfiecbigaaPqConfR
import Derived.Test.YtlabbmfiecbigaaPkAL
import Derived.Test.YtlabbmfiecbigaaPqFanR2

namespace Go.Proofs.Ytlabbmfiecbigaa
open Go.RowKit
namespace No
open Mem Lx Bu Lf Fa
/-- what right asks -/
def OkP (c : Cfg) (p : Nd) (i : Int) (k : Nd) : Prop := Fit p ∧ Fit k ∧ Cf.Right c.blocks c.bytes c.frames c.fan c.buffer c.leaf c.key c.val ∧ 1 ≤ p.lv ∧ RightN c ⟨#[]⟩ ⟨#[]⟩ true p ∧ ∀ s, kidS p i = (s, true) → RightIn c s k
theorem Fit.sz {n : Nd} (h : Fit n) : Sz n := ⟨fun p hp => Nat.le_trans (h.pk p hp) (by decide), fun m hm => Nat.le_trans (h.bk m hm) (by decide), fun m hm => Nat.le_trans (h.qk m hm) (by decide), Nat.le_trans h.kids (by decide), Nat.le_trans h.piv (by decide), Nat.le_trans h.buf (by decide), Nat.le_trans h.prs (by decide)⟩
set_option maxRecDepth 100000 in
set_option maxHeartbeats 8000000 in
theorem PRight_any (c : Cfg) {p k : Nd} {a b : At} (i : Int) {W : World} (h : NdIn W p a) (h' : NdIn W k b) (hok : NdOk p) (hok' : NdOk k) (r : Bool) (hr : r = true ↔ OkP c p i k) : Calls Try.prog 5 #[.agg (cfCs c), .agg (ndCs p a), .int .i64 i, .agg (ndCs k b)] W fun e w' => e = .returned (.bool r) ∧ Below W.heap.size W w' := by
  obtain ⟨gp, hgp⟩ := bool_of (¬ Fit p)
  obtain ⟨gk, hgk⟩ := bool_of (¬ Fit k)
  have cGp : ∀ w, Below W.heap.size W w → Hid (Calls Try.prog 12 #[.agg (ndCs p a)] w fun e w' => e = .returned (.bool gp) ∧ Below w.heap.size w w') := fun w hb => (Great_any (h.kept hb) hok).mono fun e w' ⟨⟨v, he, hv⟩, hb⟩ => ⟨by
    rw [he]
    cases v <;> cases gp <;> simp_all, hb⟩
  have cGk : ∀ w, Below W.heap.size W w → Hid (Calls Try.prog 12 #[.agg (ndCs k b)] w fun e w' => e = .returned (.bool gk) ∧ Below w.heap.size w w') := fun w hb => (Great_any (h'.kept hb) hok').mono fun e w' ⟨⟨v, he, hv⟩, hb⟩ => ⟨by
    rw [he]
    cases v <;> cases gk <;> simp_all, hb⟩
  obtain ⟨q, hq⟩ := bool_of (Cf.Right c.blocks c.bytes c.frames c.fan c.buffer c.leaf c.key c.val)
  have cQ : ∀ w, Hid (Calls Try.prog 13 #[.agg (cfCs c)] w fun e w' => e = .returned (.bool q) ∧ Below w.heap.size w w') := fun w => by
    cases q with
    | true => exact Cf.RRight_yes c.blocks c.bytes c.frames c.fan c.buffer c.leaf c.key c.val w (hq.1 rfl)
    | false => exact Cf.RRight_no c.blocks c.bytes c.frames c.fan c.buffer c.leaf c.key c.val w (fun h => by cases hq.2 h)
  obtain ⟨t, ht⟩ := bool_of (RightN c ⟨#[]⟩ ⟨#[]⟩ true p)
  have cR : Fit p → ∀ w, Below W.heap.size W w → Hid (Calls Try.prog 11 #[.agg (cfCs c), .agg #[.string ⟨#[]⟩, .string ⟨#[]⟩, .bool true], .agg (ndCs p a)] w fun e w' => e = .returned (.bool t) ∧ Below w.heap.size w w') := fun hf w hb => (RRight_sz c ⟨#[]⟩ ⟨#[]⟩ true (h.kept hb) hf.sz hok.kid (Nat.zero_le _)).mono fun e w' ⟨⟨v, he, hv⟩, hb⟩ => ⟨by rw [he, bool_one hv ht], hb⟩
  obtain ⟨⟨⟨lo, hi, top⟩, ok⟩, hs⟩ : ∃ s, s = kidS p i := ⟨_, rfl⟩
  have cS : Fit p → ∀ w, Below W.heap.size W w → Hid (Calls Try.prog 10 #[.slice a.pA p.piv.length a.pc, .int .i64 i, .agg #[.string ⟨#[]⟩, .string ⟨#[]⟩, .bool true]] w fun e w' => e = .returned (.tuple #[.agg #[.string lo, .string hi, .bool top], .bool ok]) ∧ Below w.heap.size w w') := fun hf w hb => by
    refine (RSpan_any (c := a.pc) (h.kept hb).piv.1 i ⟨#[]⟩ ⟨#[]⟩ true (Nat.zero_le _) hf.sz.piv (Nat.le_trans hf.piv (by decide))).mono fun e w' ⟨he, hb⟩ => ⟨?_, hb⟩
    have e1 : spanS p.piv i ⟨#[]⟩ ⟨#[]⟩ true = ((lo, hi, top), ok) := hs.symm
    rw [he, e1]
  obtain ⟨t2, ht2⟩ := bool_of (RightN c lo hi top k)
  have hlo : Fit p → lo.size ≤ maxLen := fun hf => by
    have := spanS_size hf.sz.piv (lo := ⟨#[]⟩) (Nat.zero_le _) i ⟨#[]⟩ true
    have e1 : spanS p.piv i ⟨#[]⟩ ⟨#[]⟩ true = ((lo, hi, top), ok) := hs.symm
    rw [e1] at this
    exact this
  have cK : Fit p → Fit k → ∀ w, Below W.heap.size W w → Hid (Calls Try.prog 11 #[.agg (cfCs c), .agg #[.string lo, .string hi, .bool top], .agg (ndCs k b)] w fun e w' => e = .returned (.bool t2) ∧ Below w.heap.size w w') := fun hf hf' w hb => (RRight_sz c lo hi top (h'.kept hb) hf'.sz hok'.kid (hlo hf)).mono fun e w' ⟨⟨v, he, hv⟩, hb⟩ => ⟨by rw [he, bool_one hv ht2], hb⟩
  have HGP : Hid (gp = false → Fit p) := fun e => Classical.not_not.1 fun hn => by
    rw [hgp.2 hn] at e
    cases e
  have HGK : Hid (gk = false → Fit k) := fun e => Classical.not_not.1 fun hn => by
    rw [hgk.2 hn] at e
    cases e
  have HRB : Hid (r = (!gp && !gk && q && decide (1 ≤ p.lv) && t && (!ok || t2))) := by
    unfold Hid
    have h1 : gp = true ↔ ¬ Fit p := hgp
    have h2 : gk = true ↔ ¬ Fit k := hgk
    have h3 : (∀ s, kidS p i = (s, true) → RightIn c s k) ↔ (ok = false ∨ t2 = true) := by
      rw [← hs, ht2]
      cases ok with
      | false => exact ⟨fun _ => .inl rfl, fun _ s hs => by cases hs⟩
      | true => exact ⟨fun h => .inr (h (lo, hi, top) rfl), fun h s hs => by
          cases hs
          rcases h with h | h
          · cases h
          · exact h⟩
    rw [Bool.eq_iff_iff, hr]
    unfold OkP
    rw [h3]
    simp only [Bool.and_eq_true, Bool.or_eq_true, Bool.not_eq_true', decide_eq_true_eq, hq, ht]
    constructor
    · rintro ⟨f, f', k1, k2, k3, k4⟩
      refine ⟨⟨⟨⟨⟨?_, ?_⟩, k1⟩, k2⟩, k3⟩, k4⟩
      · cases gp
        · rfl
        · exact absurd f (h1.1 rfl)
      · cases gk
        · rfl
        · exact absurd f' (h2.1 rfl)
    · rintro ⟨⟨⟨⟨⟨f, f'⟩, k1⟩, k2⟩, k3⟩, k4⟩
      exact ⟨HGP.out f, HGK.out f', k1, k2, k3, k4⟩
  clear h h' hok hok' hr hgp hgk hq ht ht2 hs hlo
  obtain ⟨cB, cY, cF, cN, cU, cL, cKy, cV⟩ := c
  obtain ⟨lv, K, P, B, Q⟩ := p
  obtain ⟨lv2, K2, P2, B2, Q2⟩ := k
  obtain ⟨kA, kc, pA, pc, bA, bc, qA, qc⟩ := a
  obtain ⟨kA2, kc2, pA2, pc2, bA2, bc2, qA2, qc2⟩ := b
  unfold cfCs ndCs at *
  simp only at *
  generalize K.length = kn at *
  generalize P.length = pn at *
  generalize B.length = bn at *
  generalize Q.length = qn at *
  generalize K2.length = kn2 at *
  generalize P2.length = pn2 at *
  generalize B2.length = bn2 at *
  generalize Q2.length = qn2 at *
  go_enter Try.func5, Try.ntmps5
  go_upto_region 1 with fail
  have HB := Lib.hid (B3.new W (.cells #[.int .i64 cB, .int .i64 cY, .int .i64 cF, .int .i64 cN, .int .i64 cU, .int .i64 cL, .int .i64 cKy, .int .i64 cV] 23) (.cells #[.int .i64 lv, .slice kA kn kc, .slice pA pn pc, .slice bA bn bc, .slice qA qn qc] 29) (.cells #[.int .i64 lv2, .slice kA2 kn2 kc2, .slice pA2 pn2 pc2, .slice bA2 bn2 bc2, .slice qA2 qn2 qc2] 29))
  generalize ((W.alloc (.cells #[.int .i64 cB, .int .i64 cY, .int .i64 cF, .int .i64 cN, .int .i64 cU, .int .i64 cL, .int .i64 cKy, .int .i64 cV] 23)).alloc (.cells #[.int .i64 lv, .slice kA kn kc, .slice pA pn pc, .slice bA bn bc, .slice qA qn qc] 29)).alloc (.cells #[.int .i64 lv2, .slice kA2 kn2 kc2, .slice pA2 pn2 pc2, .slice bA2 bn2 bc2, .slice qA2 qn2 qc2] 29) = w1 at *
  obtain ⟨g, hg⟩ : ∃ g, g = W.heap.size := ⟨_, rfl⟩
  rw [← hg] at HB
  simp only [← hg]
  clear hg
  obtain ⟨g0, g1, g2, g3, g4, g5, g6, g7⟩ := box8 HB.out.x
  obtain ⟨e0, e1, e2, e3, e4⟩ := box5 HB.out.y
  obtain ⟨d0, d1, d2, d3, d4⟩ := box5 HB.out.z
  cases gp with
  | true =>
    have HE : Hid (r = false) := by unfold Hid; rw [HRB.out]; rfl
    clear cR cQ cGk cS cK HGP HGK HRB
    go_wp2_with (go_at_call 12; refine (cGp _ HB.out.below).out.mono ?_; rintro e w2 ⟨rfl, hb⟩; have HBF := Lib.hid (HB.out.kept hb).below)
    go_ret
    exact ⟨by rw [HE.out]; rfl, HBF.out⟩
  | false =>
  cases gk with
  | true =>
    have HE : Hid (r = false) := by unfold Hid; rw [HRB.out]; rfl
    clear cR cQ cS cK HGP HGK HRB
    go_wp2_with (first
      | (go_at_call_of 12 (Value.agg #[.int .i64 lv, .slice kA kn kc, .slice pA pn pc, .slice bA bn bc, .slice qA qn qc]); refine (cGp _ HB.out.below).out.mono ?_; rintro e w2 ⟨rfl, hb⟩; replace HB := Lib.hid (HB.out.kept hb); clear hb cGp g0 g1 g2 g3 g4 g5 g6 g7 e0 e1 e2 e3 e4 d0 d1 d2 d3 d4; obtain ⟨d0, d1, d2, d3, d4⟩ := box5 HB.out.z)
      | (go_at_call 12; refine (cGk _ HB.out.below).out.mono ?_; rintro e w3 ⟨rfl, hb⟩; have HBF := Lib.hid (HB.out.kept hb).below))
    go_ret
    exact ⟨by rw [HE.out]; rfl, HBF.out⟩
  | false =>
  replace cR := cR (HGP.out rfl)
  replace cS := cS (HGP.out rfl)
  replace cK := cK (HGP.out rfl) (HGK.out rfl)
  clear HGP HGK
  cases q with
  | false =>
    have HE : Hid (r = false) := by unfold Hid; rw [HRB.out]; rfl
    clear cR cS cK HRB
    go_wp2_with (first
      | (go_at_call_of 12 (Value.agg #[.int .i64 lv, .slice kA kn kc, .slice pA pn pc, .slice bA bn bc, .slice qA qn qc]); refine (cGp _ HB.out.below).out.mono ?_; rintro e w2 ⟨rfl, hb⟩; replace HB := Lib.hid (HB.out.kept hb); clear hb; clear g0 g1 g2 g3 g4 g5 g6 g7 e0 e1 e2 e3 e4 d0 d1 d2 d3 d4; obtain ⟨g0, g1, g2, g3, g4, g5, g6, g7⟩ := box8 HB.out.x; obtain ⟨e0, e1, e2, e3, e4⟩ := box5 HB.out.y; obtain ⟨d0, d1, d2, d3, d4⟩ := box5 HB.out.z)
      | (go_at_call 12; refine (cGk _ HB.out.below).out.mono ?_; rintro e w3 ⟨rfl, hb⟩; replace HB := Lib.hid (HB.out.kept hb); clear hb cGp; clear g0 g1 g2 g3 g4 g5 g6 g7 e0 e1 e2 e3 e4 d0 d1 d2 d3 d4; obtain ⟨g0, g1, g2, g3, g4, g5, g6, g7⟩ := box8 HB.out.x; obtain ⟨e0, e1, e2, e3, e4⟩ := box5 HB.out.y; obtain ⟨d0, d1, d2, d3, d4⟩ := box5 HB.out.z)
      | (go_at_call 13; refine (cQ _).out.mono ?_; rintro e w4 ⟨rfl, hb⟩; replace HB := Lib.hid (HB.out.kept hb); clear hb; clear g0 g1 g2 g3 g4 g5 g6 g7 e0 e1 e2 e3 e4 d0 d1 d2 d3 d4; obtain ⟨g0, g1, g2, g3, g4, g5, g6, g7⟩ := box8 HB.out.x; obtain ⟨e0, e1, e2, e3, e4⟩ := box5 HB.out.y; obtain ⟨d0, d1, d2, d3, d4⟩ := box5 HB.out.z))
    go_ret
    exact ⟨by rw [HE.out]; rfl, HB.out.below⟩
  | true =>
  by_cases hl : 1 ≤ lv
  case neg =>
    have hd : lv < 1 := by omega
    have HE : Hid (r = false) := by unfold Hid; rw [HRB.out, decide_eq_false hl]; rfl
    clear cR cS cK HRB hl
    go_wp2_with (first
      | (go_at_call_of 12 (Value.agg #[.int .i64 lv, .slice kA kn kc, .slice pA pn pc, .slice bA bn bc, .slice qA qn qc]); refine (cGp _ HB.out.below).out.mono ?_; rintro e w2 ⟨rfl, hb⟩; replace HB := Lib.hid (HB.out.kept hb); clear hb; clear g0 g1 g2 g3 g4 g5 g6 g7 e0 e1 e2 e3 e4 d0 d1 d2 d3 d4; obtain ⟨g0, g1, g2, g3, g4, g5, g6, g7⟩ := box8 HB.out.x; obtain ⟨e0, e1, e2, e3, e4⟩ := box5 HB.out.y; obtain ⟨d0, d1, d2, d3, d4⟩ := box5 HB.out.z)
      | (go_at_call 12; refine (cGk _ HB.out.below).out.mono ?_; rintro e w3 ⟨rfl, hb⟩; replace HB := Lib.hid (HB.out.kept hb); clear hb cGp; clear g0 g1 g2 g3 g4 g5 g6 g7 e0 e1 e2 e3 e4 d0 d1 d2 d3 d4; obtain ⟨g0, g1, g2, g3, g4, g5, g6, g7⟩ := box8 HB.out.x; obtain ⟨e0, e1, e2, e3, e4⟩ := box5 HB.out.y; obtain ⟨d0, d1, d2, d3, d4⟩ := box5 HB.out.z)
      | (go_at_call 13; refine (cQ _).out.mono ?_; rintro e w4 ⟨rfl, hb⟩; replace HB := Lib.hid (HB.out.kept hb); clear hb; clear g0 g1 g2 g3 g4 g5 g6 g7 e0 e1 e2 e3 e4 d0 d1 d2 d3 d4; obtain ⟨g0, g1, g2, g3, g4, g5, g6, g7⟩ := box8 HB.out.x; obtain ⟨e0, e1, e2, e3, e4⟩ := box5 HB.out.y; obtain ⟨d0, d1, d2, d3, d4⟩ := box5 HB.out.z))
    go_ret
    exact ⟨by rw [HE.out]; rfl, HB.out.below⟩
  cases t with
  | false =>
    have HE : Hid (r = false) := by unfold Hid; rw [HRB.out, decide_eq_true hl]; rfl
    clear cS cK HRB
    go_wp2_with (first
      | (go_at_call_of 12 (Value.agg #[.int .i64 lv, .slice kA kn kc, .slice pA pn pc, .slice bA bn bc, .slice qA qn qc]); refine (cGp _ HB.out.below).out.mono ?_; rintro e w2 ⟨rfl, hb⟩; replace HB := Lib.hid (HB.out.kept hb); clear hb; clear g0 g1 g2 g3 g4 g5 g6 g7 e0 e1 e2 e3 e4 d0 d1 d2 d3 d4; obtain ⟨g0, g1, g2, g3, g4, g5, g6, g7⟩ := box8 HB.out.x; obtain ⟨e0, e1, e2, e3, e4⟩ := box5 HB.out.y; obtain ⟨d0, d1, d2, d3, d4⟩ := box5 HB.out.z)
      | (go_at_call 12; refine (cGk _ HB.out.below).out.mono ?_; rintro e w3 ⟨rfl, hb⟩; replace HB := Lib.hid (HB.out.kept hb); clear hb cGp; clear g0 g1 g2 g3 g4 g5 g6 g7 e0 e1 e2 e3 e4 d0 d1 d2 d3 d4; obtain ⟨g0, g1, g2, g3, g4, g5, g6, g7⟩ := box8 HB.out.x; obtain ⟨e0, e1, e2, e3, e4⟩ := box5 HB.out.y; obtain ⟨d0, d1, d2, d3, d4⟩ := box5 HB.out.z)
      | (go_at_call 13; refine (cQ _).out.mono ?_; rintro e w4 ⟨rfl, hb⟩; replace HB := Lib.hid (HB.out.kept hb); clear hb; clear g0 g1 g2 g3 g4 g5 g6 g7 e0 e1 e2 e3 e4 d0 d1 d2 d3 d4; obtain ⟨g0, g1, g2, g3, g4, g5, g6, g7⟩ := box8 HB.out.x; obtain ⟨e0, e1, e2, e3, e4⟩ := box5 HB.out.y; obtain ⟨d0, d1, d2, d3, d4⟩ := box5 HB.out.z)
      | (go_at_call 11; refine (cR _ HB.out.below).out.mono ?_; rintro e w5 ⟨rfl, hb⟩; replace HB := Lib.hid (HB.out.kept hb); clear hb; clear g0 g1 g2 g3 g4 g5 g6 g7 e0 e1 e2 e3 e4 d0 d1 d2 d3 d4; obtain ⟨g0, g1, g2, g3, g4, g5, g6, g7⟩ := box8 HB.out.x; obtain ⟨e0, e1, e2, e3, e4⟩ := box5 HB.out.y; obtain ⟨d0, d1, d2, d3, d4⟩ := box5 HB.out.z))
    go_ret
    exact ⟨by rw [HE.out]; rfl, HB.out.below⟩
  | true =>
    have HE : Hid (r = (!ok || t2)) := by unfold Hid; rw [HRB.out, decide_eq_true hl]; simp
    clear HRB
    go_upto_region 3 with (first
      | (go_at_call_of 12 (Value.agg #[.int .i64 lv, .slice kA kn kc, .slice pA pn pc, .slice bA bn bc, .slice qA qn qc]); refine (cGp _ HB.out.below).out.mono ?_; rintro e w2 ⟨rfl, hb⟩; replace HB := Lib.hid (HB.out.kept hb); clear hb; clear g0 g1 g2 g3 g4 g5 g6 g7 e0 e1 e2 e3 e4 d0 d1 d2 d3 d4; obtain ⟨g0, g1, g2, g3, g4, g5, g6, g7⟩ := box8 HB.out.x; obtain ⟨e0, e1, e2, e3, e4⟩ := box5 HB.out.y; obtain ⟨d0, d1, d2, d3, d4⟩ := box5 HB.out.z)
      | (go_at_call 12; refine (cGk _ HB.out.below).out.mono ?_; rintro e w3 ⟨rfl, hb⟩; replace HB := Lib.hid (HB.out.kept hb); clear hb cGp; clear g0 g1 g2 g3 g4 g5 g6 g7 e0 e1 e2 e3 e4 d0 d1 d2 d3 d4; obtain ⟨g0, g1, g2, g3, g4, g5, g6, g7⟩ := box8 HB.out.x; obtain ⟨e0, e1, e2, e3, e4⟩ := box5 HB.out.y; obtain ⟨d0, d1, d2, d3, d4⟩ := box5 HB.out.z)
      | (go_at_call 13; refine (cQ _).out.mono ?_; rintro e w4 ⟨rfl, hb⟩; replace HB := Lib.hid (HB.out.kept hb); clear hb; clear g0 g1 g2 g3 g4 g5 g6 g7 e0 e1 e2 e3 e4 d0 d1 d2 d3 d4; obtain ⟨g0, g1, g2, g3, g4, g5, g6, g7⟩ := box8 HB.out.x; obtain ⟨e0, e1, e2, e3, e4⟩ := box5 HB.out.y; obtain ⟨d0, d1, d2, d3, d4⟩ := box5 HB.out.z)
      | (go_at_call 11; refine (cR _ HB.out.below).out.mono ?_; rintro e w5 ⟨rfl, hb⟩; replace HB := Lib.hid (HB.out.kept hb); clear hb; clear g0 g1 g2 g3 g4 g5 g6 g7 e0 e1 e2 e3 e4 d0 d1 d2 d3 d4; obtain ⟨g0, g1, g2, g3, g4, g5, g6, g7⟩ := box8 HB.out.x; obtain ⟨e0, e1, e2, e3, e4⟩ := box5 HB.out.y; obtain ⟨d0, d1, d2, d3, d4⟩ := box5 HB.out.z))
    clear cGk cQ cR hl
    go_upto_region 4 with (go_at_call 10; refine (cS _ HB.out.below).out.mono ?_; rintro e w6 ⟨rfl, hb⟩; replace HB := Lib.hid (HB.out.kept hb); clear hb cS g0 g1 g2 g3 g4 g5 g6 g7 e0 e1 e2 e3 e4 d0 d1 d2 d3 d4)
    have hx := heap_alloc_new w6 (.cells #[.string lo, .string hi, .bool top] 37)
    have hb0 : Below w6.heap.size w6 (w6.alloc (.cells #[.string lo, .string hi, .bool top] 37)) := (Below.refl _ _).alloc (Nat.le_refl _) _
    generalize w6.alloc (.cells #[.string lo, .string hi, .bool top] 37) = w7 at *
    obtain ⟨s, hs⟩ : ∃ s, s = w6.heap.size := ⟨_, rfl⟩
    simp only [← hs] at hx ⊢
    clear hs
    replace HB := Lib.hid (HB.out.kept hb0)
    obtain ⟨s0, s1, s2⟩ := box3 hx
    obtain ⟨g0, g1, g2, g3, g4, g5, g6, g7⟩ := box8 HB.out.x
    obtain ⟨d0, d1, d2, d3, d4⟩ := box5 HB.out.z
    clear hx hb0
    cases ok with
    | false =>
      clear cK
      go_wp2_with fail
      go_ret
      exact ⟨by rw [HE.out]; rfl, HB.out.below⟩
    | true =>
      go_wp2_with (go_at_call 11; refine (cK _ HB.out.below).out.mono ?_; rintro e w8 ⟨rfl, hb⟩; replace HB := Lib.hid (HB.out.kept hb); clear hb cK)
      go_ret
      exact ⟨by rw [HE.out]; rfl, HB.out.below⟩
/-! ### the page's example -/
def eM : List Mg := [(⟨#[97]⟩, false, ⟨#[49]⟩), (⟨#[99]⟩, false, ⟨#[50]⟩)]
def eP : Nd := ⟨1, [3, 4], [⟨#[98]⟩], eM, []⟩
def eK : Nd := ⟨0, [], [], [], [(⟨#[97]⟩, ⟨#[48]⟩)]⟩
def eP2 : Nd := ⟨1, [3, 4], [⟨#[98]⟩], [(⟨#[99]⟩, false, ⟨#[50]⟩)], []⟩
def eK2 : Nd := ⟨0, [], [], [], [(⟨#[97]⟩, ⟨#[49]⟩)]⟩
def eC : Cfg := ⟨0, 0, 0, 0, 16, 0, 0, 0⟩
theorem e_fitP : Fit eP := ⟨by decide, by decide, by decide, by decide, by decide +kernel, by decide +kernel, by decide +kernel⟩
theorem e_fitK : Fit eK := ⟨by decide, by decide, by decide, by decide, by decide +kernel, by decide +kernel, by decide +kernel⟩
theorem e_ri : Ri eM := by
  unfold Ri eM
  decide +kernel
theorem e_right : RightS eP.piv ⟨#[]⟩ ⟨#[]⟩ true := ⟨by decide +kernel, fun i a b ha hb => by
  match i, ha, hb with
  | 0, _, hb => simp [eP] at hb
  | i + 1, ha, _ => simp [eP] at ha⟩
theorem e_pri : PRi eK.prs := by
  unfold PRi eK
  decide +kernel
theorem e_pour : pourN eC eP 0 eK 9 = (eP2, eK2, 1) := by
  have h : ¬ NoPour eP 0 eK := by decide +kernel
  rw [pourN_yes h]
  have h1 : goN eC eP 0 eK 9 = ([(⟨#[97]⟩, false, ⟨#[49]⟩)], [(⟨#[99]⟩, false, ⟨#[50]⟩)]) := by decide +kernel
  rw [h1]
  have h2 : applyP eK.prs [(⟨#[97]⟩, false, ⟨#[49]⟩)] = [(⟨#[97]⟩, ⟨#[49]⟩)] := by decide +kernel
  unfold intoN
  rw [if_pos (show eK.lv = 0 from rfl)]
  simp only [h2]
  rfl
theorem e_find : findD eM ⟨#[97]⟩ = some (⟨#[97]⟩, false, ⟨#[49]⟩) := by decide +kernel
set_option maxRecDepth 100000 in
set_option maxHeartbeats 8000000 in
theorem PAwake_any (W : World) : Calls Try.prog 6 #[] W fun e w' => e = .returned (.bool true) ∧ Below W.heap.size W w' := by
  have cP : ∀ (w : World) (z z' : At), NdIn w eP z → NdIn w eK z' → Hid (Calls Try.prog 7 #[.agg #[.int .i64 0, .int .i64 0, .int .i64 0, .int .i64 0, .int .i64 16, .int .i64 0, .int .i64 0, .int .i64 0], .agg (ndCs eP z), .int .i64 0, .agg (ndCs eK z'), .int .i64 9] w fun e w' => (∃ z1 z2, e = .returned (.tuple #[.agg (ndCs eP2 z1), .agg (ndCs eK2 z2), .int .i64 1]) ∧ NdIn w' eP2 z1 ∧ NdIn w' eK2 z2) ∧ Below w.heap.size w w') := fun w z z' h h' => (Pour_any eC h h' e_fitP e_fitK 0 9 (by decide) (by decide) rfl e_right e_ri (fun _ => ⟨fun _ => e_pri, fun h => absurd rfl h⟩)).mono fun e w' ⟨⟨v, he, hv⟩, hb⟩ => by
    rw [e_pour] at hv
    obtain ⟨z1, z2, hv, h1, h2⟩ := hv
    exact ⟨⟨z1, z2, by rw [he, hv]; rfl, h1, h2⟩, hb⟩
  have cV : ∀ (w : World) (b cx : Nat) (z : At) (r0 r1 r2 r3 r4 : Value) (U : TypeId), w.heap[b]? = some (.cells #[.int .i64 1, .slice z.kA 2 z.kc, .slice z.pA 1 z.pc, .slice z.bA 2 z.bc, .slice z.qA 0 z.qc, r0, r1, r2, r3, r4] U (0, 0)) → NdIn w eP z → Hid (Calls Try.prog 14 #[.slice (some ⟨b, 0, none⟩) 2 cx, .string ⟨#[97]⟩] w fun e w' => e = .returned (.tuple #[.string ⟨#[49]⟩, .bool true]) ∧ Below w.heap.size w w') := fun w b cx z r0 r1 r2 r3 r4 U hx hz => Value_first (L := eM) ⟨#[97]⟩ ⟨#[49]⟩ hx hz.buf.1 (by decide) (by decide +kernel) e_ri (by decide) e_find
  go_enter Try.func6, Try.ntmps6
  go_upto_region 2 with fail
  have h4 := four_new W (.cells #[.int .u32 3, .int .u32 4] 43) (.cells #[.string ⟨#[98]⟩] 9) (.cells #[.string ⟨#[97]⟩, .bool false, .string ⟨#[49]⟩, .string ⟨#[99]⟩, .bool false, .string ⟨#[50]⟩] 45) (.cells #[.int .i64 1, .slice (some ⟨W.heap.size, 0, none⟩) 2 2, .slice (some ⟨W.heap.size + 1, 0, none⟩) 1 1, .slice (some ⟨W.heap.size + 1 + 1, 0, none⟩) 2 2, .slice none 0 0] 29)
  generalize (((W.alloc (.cells #[.int .u32 3, .int .u32 4] 43)).alloc (.cells #[.string ⟨#[98]⟩] 9)).alloc (.cells #[.string ⟨#[97]⟩, .bool false, .string ⟨#[49]⟩, .string ⟨#[99]⟩, .bool false, .string ⟨#[50]⟩] 45)).alloc (.cells #[.int .i64 1, .slice (some ⟨W.heap.size, 0, none⟩) 2 2, .slice (some ⟨W.heap.size + 1, 0, none⟩) 1 1, .slice (some ⟨W.heap.size + 1 + 1, 0, none⟩) 2 2, .slice none 0 0] 29) = w1 at *
  obtain ⟨g, hg⟩ : ∃ g, g = W.heap.size := ⟨_, rfl⟩
  simp only [← hg] at h4 ⊢
  obtain ⟨z0, hz0⟩ : ∃ z : At, z = ⟨some ⟨g, 0, none⟩, 2, some ⟨g + 1, 0, none⟩, 1, some ⟨g + 1 + 1, 0, none⟩, 2, none, 0⟩ := ⟨_, rfl⟩
  have HI : Hid (NdIn w1 eP z0) := by
    subst hz0
    exact ⟨⟨rd_block h4.1, Nat.le_refl _⟩, ⟨rd_block h4.2.1, Nat.le_refl _⟩, ⟨rd_block h4.2.2.1, Nat.le_refl _⟩, RC.nil _ _ _⟩
  have hv : #[.int .i64 1, .slice (some ⟨g, 0, none⟩) 2 2, .slice (some ⟨g + 1, 0, none⟩) 1 1, .slice (some ⟨g + 1 + 1, 0, none⟩) 2 2, .slice none 0 0] = ndCs eP z0 := by
    subst hz0
    rfl
  have HW : Hid (Below W.heap.size W w1) := by
    rw [← hg]
    exact h4.2.2.2.2
  have hx := h4.2.2.2.1
  obtain ⟨gx, hgx⟩ : ∃ gx, gx = g + 1 + 1 + 1 := ⟨_, rfl⟩
  rw [hv, ← hgx] at hx
  simp only [← hgx]
  have HX : Hid (w1.heap[gx]? = some (.cells #[.int .i64 1, .slice z0.kA 2 z0.kc, .slice z0.pA 1 z0.pc, .slice z0.bA 2 z0.bc, .slice z0.qA 0 z0.qc] 29)) := hx
  clear hv h4 hg hx hgx hz0
  go_upto_region 3 with fail
  have h2 := two_new w1 (.cells #[.string ⟨#[97]⟩, .string ⟨#[48]⟩] 47) (.cells #[.int .i64 0, .slice none 0 0, .slice none 0 0, .slice none 0 0, .slice (some ⟨w1.heap.size, 0, none⟩) 1 1] 29)
  generalize (w1.alloc (.cells #[.string ⟨#[97]⟩, .string ⟨#[48]⟩] 47)).alloc (.cells #[.int .i64 0, .slice none 0 0, .slice none 0 0, .slice none 0 0, .slice (some ⟨w1.heap.size, 0, none⟩) 1 1] 29) = w2 at *
  obtain ⟨q, hq⟩ : ∃ q, q = w1.heap.size := ⟨_, rfl⟩
  obtain ⟨h2a, h2b, h2c⟩ := h2
  replace HI := Lib.hid (HI.out.kept h2c)
  replace HX := Lib.hid (kept3 HX.out h2c)
  replace HW := Lib.hid (HW.out.trans (h2c.mono HW.out.size))
  simp only [← hq] at h2a h2b ⊢
  obtain ⟨zk, hzk⟩ : ∃ z : At, z = ⟨none, 0, none, 0, none, 0, some ⟨q, 0, none⟩, 1⟩ := ⟨_, rfl⟩
  have HK : Hid (NdIn w2 eK zk) := by
    subst hzk
    exact ⟨RC.nil _ _ _, RC.nil _ _ _, RC.nil _ _ _, ⟨rd_block h2a, Nat.le_refl _⟩⟩
  have hv : #[.int .i64 0, .slice none 0 0, .slice none 0 0, .slice none 0 0, .slice (some ⟨q, 0, none⟩) 1 1] = ndCs eK zk := by
    subst hzk
    rfl
  obtain ⟨gy, hgy⟩ : ∃ gy, gy = q + 1 := ⟨_, rfl⟩
  rw [hv, ← hgy] at h2b
  simp only [← hgy]
  have HY : Hid (w2.heap[gy]? = some (.cells #[.int .i64 0, .slice zk.kA 0 zk.kc, .slice zk.pA 0 zk.pc, .slice zk.bA 0 zk.bc, .slice zk.qA 1 zk.qc] 29)) := h2b
  clear hv h2a h2b h2c hq hgy hzk
  obtain ⟨d0, d1, d2, d3, d4⟩ := box5 HX.out
  obtain ⟨e0, e1, e2, e3, e4⟩ := box5 HY.out
  replace cP := cP w2 z0 zk HI.out HK.out
  unfold ndCs at cP
  simp only [eP, eK, eP2, eK2, eM, List.length_cons, List.length_nil, Nat.zero_add, Nat.reduceAdd] at cP
  go_upto_region 4 with (go_at_call 7; refine cP.out.mono ?_; rintro e w3 ⟨⟨z1, z2, rfl, hz1, hz2⟩, hb⟩; have HZ1 := Lib.hid hz1; have HZ2 := Lib.hid hz2; replace HI := Lib.hid (HI.out.kept hb); replace HX := Lib.hid (kept3 HX.out hb); replace HY := Lib.hid (kept3 HY.out hb); replace HW := Lib.hid (HW.out.trans (hb.mono HW.out.size)); clear hb hz1 hz2 cP HK d0 d1 d2 d3 d4 e0 e1 e2 e3 e4)
  have h2 := two_new w3 (.cells #[.int .i64 1, .slice z1.kA 2 z1.kc, .slice z1.pA 1 z1.pc, .slice z1.bA 1 z1.bc, .slice z1.qA 0 z1.qc] 29) (.cells #[.int .i64 0, .slice z2.kA 0 z2.kc, .slice z2.pA 0 z2.pc, .slice z2.bA 0 z2.bc, .slice z2.qA 1 z2.qc] 29)
  generalize (w3.alloc (.cells #[.int .i64 1, .slice z1.kA 2 z1.kc, .slice z1.pA 1 z1.pc, .slice z1.bA 1 z1.bc, .slice z1.qA 0 z1.qc] 29)).alloc (.cells #[.int .i64 0, .slice z2.kA 0 z2.kc, .slice z2.pA 0 z2.pc, .slice z2.bA 0 z2.bc, .slice z2.qA 1 z2.qc] 29) = w4 at *
  obtain ⟨m, hm⟩ : ∃ m, m = w3.heap.size := ⟨_, rfl⟩
  obtain ⟨h2a, h2b, h2c⟩ := h2
  simp only [← hm] at h2a h2b ⊢
  have HM := Lib.hid h2a
  have HN := Lib.hid h2b
  replace HI := Lib.hid (HI.out.kept h2c)
  replace HX := Lib.hid (kept3 HX.out h2c)
  replace HY := Lib.hid (kept3 HY.out h2c)
  replace HZ1 := Lib.hid (HZ1.out.kept h2c)
  replace HZ2 := Lib.hid (HZ2.out.kept h2c)
  replace HW := Lib.hid (HW.out.trans (h2c.mono HW.out.size))
  clear h2a h2b h2c hm
  obtain ⟨d0, d1, d2, d3, d4⟩ := box5 HX.out
  obtain ⟨e0, e1, e2, e3, e4⟩ := box5 HY.out
  have hr10 := heap_alloc_new w4 (.cells #[.int .i64 1, .slice z0.kA 2 z0.kc, .slice z0.pA 1 z0.pc, .slice z0.bA 2 z0.bc, .slice z0.qA 0 z0.qc, .int .i64 0, .slice zk.kA 0 zk.kc, .slice zk.pA 0 zk.pc, .slice zk.bA 0 zk.bc, .slice zk.qA 1 zk.qc] 29)
  have hb10 : Below w4.heap.size w4 (w4.alloc (.cells #[.int .i64 1, .slice z0.kA 2 z0.kc, .slice z0.pA 1 z0.pc, .slice z0.bA 2 z0.bc, .slice z0.qA 0 z0.qc, .int .i64 0, .slice zk.kA 0 zk.kc, .slice zk.pA 0 zk.pc, .slice zk.bA 0 zk.bc, .slice zk.qA 1 zk.qc] 29)) := (Below.refl _ _).alloc (Nat.le_refl _) _
  have HC := Lib.hid (cV _ _ 2 z0 _ _ _ _ _ _ hr10 (HI.out.kept hb10)).out
  have HB10 := Lib.hid hb10
  clear hr10 hb10 cV
  go_upto_region 5 with (go_at_call 14; refine HC.out.mono ?_; rintro e w5 ⟨rfl, hb⟩; have hb' := HB10.out.trans (hb.mono HB10.out.size); replace HM := Lib.hid (kept3 HM.out hb'); replace HN := Lib.hid (kept3 HN.out hb'); replace HZ1 := Lib.hid (HZ1.out.kept hb'); replace HZ2 := Lib.hid (HZ2.out.kept hb'); replace HW := Lib.hid (HW.out.trans (hb'.mono HW.out.size)); clear hb hb' HC HB10 HX HY HI d0 d1 d2 d3 d4 e0 e1 e2 e3 e4)
  obtain ⟨d0, d1, d2, d3, d4⟩ := box5 HM.out
  obtain ⟨e0, e1, e2, e3, e4⟩ := box5 HN.out
  obtain ⟨b, o, hbo, -, x0, x1, x2⟩ := RdK.msg (HZ1.out.buf.1) (i := 0) (m := (⟨#[99]⟩, false, ⟨#[50]⟩)) rfl
  obtain ⟨b', o', hbo', -, y0, y1⟩ := RdK.pair (HZ2.out.prs.1) (i := 0) (m := (⟨#[97]⟩, ⟨#[49]⟩)) rfl
  simp only [hbo, hbo'] at d3 e4
  rw [Nat.zero_mul, Nat.add_zero] at x0 x1 x2 y0 y1
  go_wp2_with fail
  go_ret
  exact ⟨rfl, HW.out⟩
end No
end Go.Proofs.Ytlabbmfiecbigaa
