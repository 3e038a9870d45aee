/-
  CleaveR4. Put together by pack.py.
-/
import Derived.Test.YtohnllclkpflaaaPqCleaveR3

namespace Go.Proofs.Ytohnllclkpflaaa
open Go.RowKit
namespace No
open Mem Lx Bu Lf Fa
set_option maxRecDepth 100000 in
set_option maxHeartbeats 32000000 in
theorem RHalve_isome {W : World} {c : Cfg} {lo hi : ByteArray} {top : Bool} {n : Nd} {a : At} (h : NdIn W n a) (hr : InnerP c lo hi top n) (hf : Fit n) (hl : n.lv ≠ 0) (h2 : 2 ≤ n.kids.length) : Calls Try.prog 11 #[.agg (ndCs n a)] W fun e w' => (∃ v, e = .returned v ∧ EvHalf (halfN n) v w') ∧ Below W.heap.size W w' := by
  obtain ⟨hh, p, hhh, hh1, hh2, hp⟩ := hr.pivot h2
  rw [halfN_inner hl h2 hhh hp]
  have hfe := hr.fewer
  have HH := Lib.hid h
  have k1 := hf.kids
  have k2 := hf.piv
  have k3 := hf.buf
  have hps : p.size ≤ 200 := hf.pk p (List.mem_of_getElem? hp)
  have cP : ∀ (x : Mg), x ∈ n.buf → ∀ w : World, Hid (Calls Try.prog 26 #[.string x.1, .string p] w fun e w' => e = .returned (.int .i64 (cmpB x.1 p)) ∧ Below w.heap.size w w') := fun x hx w => RCmp x.1 p (Nat.le_trans (hf.bk x hx) (by decide)) w
  clear h hf hr
  obtain ⟨lv, K, P, B, Q⟩ := n
  obtain ⟨kA, kc, pA, pc, bA, bc, qA, qc⟩ := a
  unfold ndCs
  simp only at *
  have hdl : (lv == 0) = false := by simpa using hl
  have HP0 := Lib.hid hp
  generalize hkn : K.length = kn at *
  generalize hpn : P.length = pn at *
  generalize hbn : B.length = bn at *
  generalize Q.length = qn at *
  have HKN := Lib.hid hkn
  have HPN := Lib.hid hpn
  have HBN := Lib.hid hbn
  have HHH : Hid (∀ k : Nat, (2 * k < kn ↔ k < hh)) := fun k => by omega
  obtain ⟨j, hj⟩ : ∃ j, j = hh - 1 := ⟨_, rfl⟩
  have HJ : Hid (j + 1 = hh) := by unfold Hid; omega
  have hpn2 : hh ≤ pn := by omega
  have hd2 : decide ((kn : Int) < 2) = false := by simp; omega
  rw [← hj] at HP0
  clear hl hkn hpn hbn hhh hp hps h2 hfe hj
  go_enter Try.func11, Try.ntmps11
  go_upto_region 1 with fail
  have HB := Lib.hid (B3.new W (.cells #[.int .i64 lv, .slice kA kn kc, .slice pA pn pc, .slice bA bn bc, .slice qA qn qc] 31) (.cells #[.int .i64 0, .slice none 0 0, .slice none 0 0, .slice none 0 0, .slice none 0 0] 31) (.cells #[.int .i64 0, .slice none 0 0, .slice none 0 0, .slice none 0 0, .slice none 0 0] 31))
  generalize ((W.alloc (.cells #[.int .i64 lv, .slice kA kn kc, .slice pA pn pc, .slice bA bn bc, .slice qA qn qc] 31)).alloc (.cells #[.int .i64 0, .slice none 0 0, .slice none 0 0, .slice none 0 0, .slice none 0 0] 31)).alloc (.cells #[.int .i64 0, .slice none 0 0, .slice none 0 0, .slice none 0 0, .slice none 0 0] 31) = w1 at *
  obtain ⟨g, hg⟩ : ∃ g, g = W.heap.size := ⟨_, rfl⟩
  rw [← hg] at HB
  simp only [← hg]
  clear hg
  obtain ⟨d0, d1, d2, d3, d4⟩ := box5 HB.out.x
  have z0 := fun q : Drift.Tide [] w1 [] => Drift.Tide.cell d0 (by simp) q
  clear d0 d1 d2 d3 d4
  refine DriftW.wp_region_drift [] [(0,[]),(1,[]),(2,[]),(3,[]),(4,[]),(5,[]),(6,[7]),(7,[]),(8,[])] [8] [6, 7] (by kernel_rfl) (by kernel_rfl) (by simp) ?_
  simp only [Drift.pick, Drift.opsAt, List.getElem?_toArray, List.getElem?_cons_zero, List.getElem?_cons_succ, List.cons_append, List.nil_append, List.filterMap_cons, List.filterMap_nil]
  repeat (refine DriftW.walk_step (fun K hK => ?_); go_simp; (refine hK _ ?_; clear hK K))
  refine DriftW.walk_make rfl (Drift.mkwalk_one rfl (fun b => .pointer (some ⟨b, 0, none⟩)) (.cells #[.int .i64 0, .slice none 0 0, .slice none 0 0, .slice none 0 0, .slice none 0 0] 31) (fun W => by go_simp) fun _ _ => Drift.mkwalk_nil) (fun b => .pointer (some ⟨b, 0, none⟩)) (.cells #[.int .i64 0, .slice none 0 0, .slice none 0 0, .slice none 0 0, .slice none 0 0] 31) (fun W => by go_simp) (fun ga hga _ => ?_)
  refine DriftW.walk_make_apart rfl Drift.mkwalk_nil (fun b => .pointer (some ⟨b, 0, none⟩)) (.cells #[.int .i64 0, .slice none 0 0, .slice none 0 0, .slice none 0 0, .slice none 0 0] 31) (fun W => by go_simp) (fun gb hgb hne _ => ?_)
  have hne2 : gb ≠ ga := hne (ga, .cells #[.int .i64 0, .slice none 0 0, .slice none 0 0, .slice none 0 0, .slice none 0 0] 31) (by simp)
  refine DriftW.walk_event_at rfl Drift.mkwalk_nil [ga] (fun k hk => ?_) (EvBoxed ga #[.int .i64 lv, .slice none 0 0, .slice none 0 0, .slice none 0 0, .slice none 0 0]) (fun W2 hk hl2 => ?_) (fun v w2 hv hI hl2 => ?_)
  · obtain rfl : k = ga := by simpa using hk
    exact ⟨hga, (k, .cells #[.int .i64 0, .slice none 0 0, .slice none 0 0, .slice none 0 0, .slice none 0 0] 31), by simp, rfl⟩
  · have hx2 := hl2 (ga, .cells #[.int .i64 0, .slice none 0 0, .slice none 0 0, .slice none 0 0, .slice none 0 0] 31) (by simp)
    obtain ⟨a0, a1, a2, a3, a4⟩ := box5 hx2
    have fa0 := free5 hx2 0; have fa1 := free5 hx2 1; have fa2 := free5 hx2 2; have fa3 := free5 hx2 3; have fa4 := free5 hx2 4
    have hs5 := set5_at hx2 (.int .i64 lv) (.slice none 0 0) (.slice none 0 0) (.slice none 0 0) (.slice none 0 0)
    have hi5 := into_set5 W2 ga (.int .i64 lv) (.slice none 0 0) (.slice none 0 0) (.slice none 0 0) (.slice none 0 0)
    unfold set5 at hs5 hi5
    have HS5 := Lib.hid hs5
    have HI5 := Lib.hid hi5
    clear hs5 hi5
    go_simp
    exact ⟨⟨rfl, HS5.out⟩, HI5.out⟩
  obtain ⟨rfl, hv⟩ := hv
  refine DriftW.walk_nil ?_
  intro w3 hb3 hl3
  have hga3 := kept3 hv hb3
  have hgb3 := hl3 (gb, .cells #[.int .i64 0, .slice none 0 0, .slice none 0 0, .slice none 0 0, .slice none 0 0] 31) (DriftW.mem_keepG.2 ⟨by simp, by simpa using hne2⟩)
  have HB5 : Hid (B5 W g (.cells #[.int .i64 lv, .slice kA kn kc, .slice pA pn pc, .slice bA bn bc, .slice qA qn qc] 31) (.cells #[.int .i64 0, .slice none 0 0, .slice none 0 0, .slice none 0 0, .slice none 0 0] 31) (.cells #[.int .i64 0, .slice none 0 0, .slice none 0 0, .slice none 0 0, .slice none 0 0] 31) ga gb (.cells #[.int .i64 lv, .slice none 0 0, .slice none 0 0, .slice none 0 0, .slice none 0 0] 31) (.cells #[.int .i64 0, .slice none 0 0, .slice none 0 0, .slice none 0 0, .slice none 0 0] 31) w3) := ⟨(HB.out.kept hI.below).kept hb3, hga3, hgb3, Ne.symm hne2, Nat.lt_of_lt_of_le HB.out.lt hga, Nat.lt_of_lt_of_le HB.out.lt hgb⟩
  clear HB hb3 hl3 hl2 hne hne2 hga hgb z0 hI hv hga3 hgb3
  simp only [List.length_cons, List.length_nil, List.drop_succ_cons, List.drop_zero, Nat.zero_add, Nat.reduceAdd]
  obtain ⟨b0, b1, b2, b3, b4⟩ := box5 HB5.out.b
  have fb0 := free5 HB5.out.b 0; have fb1 := free5 HB5.out.b 1; have fb2 := free5 HB5.out.b 2; have fb3 := free5 HB5.out.b 3; have fb4 := free5 HB5.out.b 4
  go_upto_region 2 with fail
  clear b0 b1 b2 b3 b4 fb0 fb1 fb2 fb3 fb4
  replace HB5 := Lib.hid (HB5.out.setb5 (.int .i64 lv) (.slice none 0 0) (.slice none 0 0) (.slice none 0 0) (.slice none 0 0))
  unfold set5 at HB5
  generalize ((((w3.setCell ⟨gb, 0, none⟩ (.int .i64 lv)).setCell ⟨gb, 1, none⟩ (.slice none 0 0)).setCell ⟨gb, 2, none⟩ (.slice none 0 0)).setCell ⟨gb, 3, none⟩ (.slice none 0 0)).setCell ⟨gb, 4, none⟩ (.slice none 0 0) = w4 at *
  have HL0 := Lib.hid (Lp.start (K := KdK) HB5.out)
  obtain ⟨d0, d1, d2, d3, d4⟩ := box5 HB5.out.b3.x
  have hbW := HB5.out.b3.below.size
  clear HB5
  go_wp2_with fail
  go_loopg [12] kn (fun gk iv wr => ∃ (k a b c1 c2 : Nat) (A1 A2 : Option Addr), k ≤ kn ∧ gk = kn - k ∧ iv = .int .i64 (k : Int) ∧ a ≤ k ∧ b ≤ k ∧ Hid (((K.take k).take hh).length = a) ∧ Hid (((K.take k).drop hh).length = b) ∧ Hid (Lp KdK W w4 g (.cells #[.int .i64 lv, .slice kA kn kc, .slice pA pn pc, .slice bA bn bc, .slice qA qn qc] 31) (.cells #[.int .i64 0, .slice none 0 0, .slice none 0 0, .slice none 0 0, .slice none 0 0] 31) (.cells #[.int .i64 0, .slice none 0 0, .slice none 0 0, .slice none 0 0, .slice none 0 0] 31) ga gb (.cells #[.int .i64 lv, .slice A1 a c1, .slice none 0 0, .slice none 0 0, .slice none 0 0] 31) (.cells #[.int .i64 lv, .slice A2 b c2, .slice none 0 0, .slice none 0 0, .slice none 0 0] 31) A1 c1 ((K.take k).take hh) A2 c2 ((K.take k).drop hh) wr))
  case atStart => exact ⟨0, 0, 0, 0, 0, none, none, Nat.zero_le _, rfl, rfl, Nat.le_refl _, Nat.le_refl _, by simp [Hid], by simp [Hid], by simpa [Hid] using HL0.out⟩
  case round =>
    obtain ⟨k, a, b, c1, c2, A1, A2, hk, rfl, rfl, ha, hb, HLA, HLB, HL⟩ := hrel
    clear HL0 d0 d1 d2 d3 d4
    obtain ⟨d0, d1, d2, d3, d4⟩ := box5 HL.out.b5.b3.x
    obtain ⟨u0, u1, u2, u3, u4⟩ := box5 HL.out.b5.a
    obtain ⟨v0, v1, v2, v3, v4⟩ := box5 HL.out.b5.b
    by_cases hlt : k < kn
    · have hkL : k < K.length := by rw [HKN.out]; exact hlt
      obtain ⟨x, hxx⟩ : ∃ x, x = K[k] := ⟨_, rfl⟩
      have hx' : K[k]? = some x := by rw [hxx]; exact List.getElem?_eq_getElem hkL
      obtain ⟨bx, ox, ex, -, r0⟩ := RdK.kid (HH.out.kept HL.out.b5.b3.below).kids.1 hx'
      have hbx0 : bx < W.heap.size := by
        obtain ⟨b', o', e', h', -⟩ := RdK.kid HH.out.kids.1 hx'
        rw [ex] at e'
        obtain ⟨rfl, rfl⟩ : bx = b' ∧ ox = o' := by simpa using e'
        exact h'
      have hbx : bx < w4.heap.size := Nat.lt_of_lt_of_le hbx0 hbW
      simp only at ex
      subst ex
      have HX := Lib.hid hx'
      have hw2 : IntKind.i64.wrap ((k : Int) + 1) = ((k + 1 : Nat) : Int) := by rw [IntKind.wrap_i64]; omega
      have hw3 : IntKind.i64.wrap (2 * (k : Int)) = ((2 * k : Nat) : Int) := by rw [IntKind.wrap_i64]; omega
      clear hxx hkL hx' hbx0
      by_cases hlo : k < hh
      · have hlt2 : ((2 * k : Nat) : Int) < (kn : Int) := by have := (HHH.out k).2 hlo; omega
        go_upto_region 20 with fail
        obtain ⟨S, hS1, hS2⟩ := VK.blocks HL.out.v1
        have hS3 : ∀ k, k ∈ S → k < wr.heap.size := fun k hk => (hS2 k hk).2
        have hbig : ∀ k, k < w4.heap.size → k ∉ S := fun k hk hm => by
          have := (hS2 k hm).1
          omega
        have hgS : g ∉ S := hbig g (by have := HL.out.b5.la; have := HL.out.ha; omega)
        have hbS : ga ∉ S := hbig ga HL.out.ha
        have hxS : bx ∉ S := hbig bx hbx
        have HS1 := Lib.hid hS1
        have hm1 : a + 1 ≤ 1048576 := by omega
        have yr0 := fun q : Drift.Tide S wr [] => Drift.Tide.cell r0 hxS q
        have yd := fun q : Drift.Tide S wr [] => Drift.Tide.cell d1 hgS q
        have yu := fun q : Drift.Tide S wr [] => Drift.Tide.cell u1 hbS q
        clear hbig hgS hbS hxS hS1 hS2 r0 d0 d1 d2 d3 d4 u0 u1 u2 u3 u4 v0 v1 v2 v3 v4
        refine Drift.wp_region_drift S [(0,[]),(1,[]),(2,[]),(3,[]),(4,[]),(5,[]),(6,[]),(7,[]),(8,[])] [8] [7] (by kernel_rfl) (by kernel_rfl) hS3 ?_
        clear hS3
        simp only [Drift.pick, Drift.opsAt, List.getElem?_toArray, List.getElem?_cons_zero, List.getElem?_cons_succ, List.cons_append, List.nil_append, List.filterMap_nil]
        repeat (refine Drift.walk_step (fun K hK => ?_); go_simp; (refine hK _ ?_; clear hK K))
        refine Drift.walk_make rfl Drift.mkwalk_nil (fun b => .slice (some ⟨b, 0, none⟩) 1 1) (.cells #[.int .u32 (x : Int)] 46) (fun W => by go_simp) (fun b1 hb1 hT1 => ?_)
        refine Drift.walk_event rfl Drift.mkwalk_nil (EvApp KdK w4.heap.size wr A1 (a + 1) ((K.take k).take hh ++ [x])) (fun W2 hk hl2 => ?_) (fun v w5 hv hI _ hTd => ?_)
        · exact evAt_appW (K := KdK) Try.underlying26 slinfoK rfl (by decide) (by decide) (.tmp 104) (.tmp 110) rfl w4.heap.size A1 a c1 ((K.take k).take hh) rfl HLA.out HL.out.v1 hk b1 1 x rfl (hl2 (b1, .cells #[.int .u32 (x : Int)] 46) (by simp)) hm1 HL.out.size HS1.out
        obtain ⟨A5, c5, rfl, hd5⟩ := hv
        have HD5 := Lib.hid hd5
        clear hI hd5 hTd
        refine Drift.walk_nil ?_
        intro w6 hb6 _
        have HD6 := Lib.hid (HD5.out.then_ hb6 (Nat.le_trans HL.out.size HD5.out.below.size))
        have H6 := Lib.hid (HL.out.b5.grow HD6.out.below HL.out.ha HL.out.hb)
        obtain ⟨u0, u1, u2, u3, u4⟩ := box5 H6.out.a
        have fr := free5 H6.out.a 1
        have HL6 := Lib.hid (HL.out.app1 HD6.out (i := 1) (.slice A5 (a + 1) c5) (.cells #[.int .i64 lv, .slice A5 (a + 1) c5, .slice none 0 0, .slice none 0 0, .slice none 0 0] 31) (fun w h => by simp [World.setCell, Array.getElem?_modify, h]))
        clear hb6 HD5 HD6 yd yu yr0 hT1 HS1 H6
        simp only [List.length_cons, List.length_nil, List.drop_succ_cons, List.drop_zero, Nat.zero_add, Nat.reduceAdd]
        go_wp2_with fail
        obtain ⟨e1, e2⟩ := part_lo HX.out hlo
        go_roundg (kn - (k + 1))
        case measure => omega
        case rel => exact ⟨k + 1, a + 1, b, c5, c2, A5, A2, hlt, rfl, by go_num, by omega, by omega, by unfold Hid; rw [e1, List.length_append, HLA.out]; rfl, by unfold Hid; rw [e2]; exact HLB.out, by unfold Hid; rw [e1, e2]; exact HL6.out⟩
      · have hlt2 : (kn : Int) ≤ ((2 * k : Nat) : Int) := by
          have : ¬ 2 * k < kn := fun hc => hlo ((HHH.out k).1 hc)
          omega
        go_upto_region 21 with fail
        obtain ⟨S, hS1, hS2⟩ := VK.blocks HL.out.v2
        have hS3 : ∀ k, k ∈ S → k < wr.heap.size := fun k hk => (hS2 k hk).2
        have hbig : ∀ k, k < w4.heap.size → k ∉ S := fun k hk hm => by
          have := (hS2 k hm).1
          omega
        have hgS : g ∉ S := hbig g (by have := HL.out.b5.la; have := HL.out.ha; omega)
        have hbS : gb ∉ S := hbig gb HL.out.hb
        have hxS : bx ∉ S := hbig bx hbx
        have HS1 := Lib.hid hS1
        have hm1 : b + 1 ≤ 1048576 := by omega
        have yr0 := fun q : Drift.Tide S wr [] => Drift.Tide.cell r0 hxS q
        have yd := fun q : Drift.Tide S wr [] => Drift.Tide.cell d1 hgS q
        have yu := fun q : Drift.Tide S wr [] => Drift.Tide.cell v1 hbS q
        clear hbig hgS hbS hxS hS1 hS2 r0 d0 d1 d2 d3 d4 u0 u1 u2 u3 u4 v0 v1 v2 v3 v4
        refine Drift.wp_region_drift S [(0,[]),(1,[]),(2,[]),(3,[]),(4,[]),(5,[]),(6,[]),(7,[]),(8,[])] [8] [7] (by kernel_rfl) (by kernel_rfl) hS3 ?_
        clear hS3
        simp only [Drift.pick, Drift.opsAt, List.getElem?_toArray, List.getElem?_cons_zero, List.getElem?_cons_succ, List.cons_append, List.nil_append, List.filterMap_nil]
        repeat (refine Drift.walk_step (fun K hK => ?_); go_simp; (refine hK _ ?_; clear hK K))
        refine Drift.walk_make rfl Drift.mkwalk_nil (fun b => .slice (some ⟨b, 0, none⟩) 1 1) (.cells #[.int .u32 (x : Int)] 46) (fun W => by go_simp) (fun b1 hb1 hT1 => ?_)
        refine Drift.walk_event rfl Drift.mkwalk_nil (EvApp KdK w4.heap.size wr A2 (b + 1) ((K.take k).drop hh ++ [x])) (fun W2 hk hl2 => ?_) (fun v w5 hv hI _ hTd => ?_)
        · exact evAt_appW (K := KdK) Try.underlying26 slinfoK rfl (by decide) (by decide) (.tmp 114) (.tmp 120) rfl w4.heap.size A2 b c2 ((K.take k).drop hh) rfl HLB.out HL.out.v2 hk b1 1 x rfl (hl2 (b1, .cells #[.int .u32 (x : Int)] 46) (by simp)) hm1 HL.out.size HS1.out
        obtain ⟨A5, c5, rfl, hd5⟩ := hv
        have HD5 := Lib.hid hd5
        clear hI hd5 hTd
        refine Drift.walk_nil ?_
        intro w6 hb6 _
        have HD6 := Lib.hid (HD5.out.then_ hb6 (Nat.le_trans HL.out.size HD5.out.below.size))
        have H6 := Lib.hid (HL.out.b5.grow HD6.out.below HL.out.ha HL.out.hb)
        obtain ⟨u0, u1, u2, u3, u4⟩ := box5 H6.out.b
        have fr := free5 H6.out.b 1
        have HL6 := Lib.hid (HL.out.app2 HD6.out (i := 1) (.slice A5 (b + 1) c5) (.cells #[.int .i64 lv, .slice A5 (b + 1) c5, .slice none 0 0, .slice none 0 0, .slice none 0 0] 31) (fun w h => by simp [World.setCell, Array.getElem?_modify, h]))
        clear hb6 HD5 HD6 yd yu yr0 hT1 HS1 H6
        simp only [List.length_cons, List.length_nil, List.drop_succ_cons, List.drop_zero, Nat.zero_add, Nat.reduceAdd]
        go_wp2_with fail
        obtain ⟨e1, e2⟩ := part_hi HX.out (Nat.le_of_not_lt hlo)
        go_roundg (kn - (k + 1))
        case measure => omega
        case rel => exact ⟨k + 1, a, b + 1, c1, c5, A1, A5, hlt, rfl, by go_num, by omega, by omega, by unfold Hid; rw [e1]; exact HLA.out, by unfold Hid; rw [e2, List.length_append, HLB.out]; rfl, by unfold Hid; rw [e1, e2]; exact HL6.out⟩
    obtain rfl : kn = k := by omega
    have e0 : K.take kn = K := List.take_of_length_le (by rw [HKN.out]; exact Nat.le_refl _)
    rw [e0] at HLA HLB HL
    obtain rfl : hh = a := by have := HLA.out; rw [List.length_take, HKN.out] at this; omega
    obtain rfl : kn - hh = b := by have := HLB.out; rw [List.length_drop, HKN.out] at this; omega
    obtain ⟨kR1, rfl⟩ : ∃ z, z = A1 := ⟨_, rfl⟩
    obtain ⟨kR2, rfl⟩ : ∃ z, z = A2 := ⟨_, rfl⟩
    obtain ⟨kC1, rfl⟩ : ∃ z, z = c1 := ⟨_, rfl⟩
    obtain ⟨kC2, rfl⟩ : ∃ z, z = c2 := ⟨_, rfl⟩
    obtain ⟨w5, rfl⟩ : ∃ z, z = wr := ⟨_, rfl⟩
    have HGA : Hid (ga < w4.heap.size ∧ gb < w4.heap.size) := ⟨HL.out.ha, HL.out.hb⟩
    have HK1 : Hid (VK KdK w5 w4.heap.size kR1 kC1 (K.take hh)) := HL.out.v1
    have HK2 : Hid (VK KdK w5 w4.heap.size kR2 kC2 (K.drop hh)) := HL.out.v2
    have HKL1 : Hid ((K.take hh).length = hh) := HLA
    have HKL2 : Hid ((K.drop hh).length = kn - hh) := HLB
    have HSZ4 : Hid (w4.heap.size ≤ w5.heap.size) := HL.out.size
    have HL0 := Lib.hid (Lp.start (K := StK) HL.out.b5)
    clear hlt hk ha hb HLA HLB HL u0 u1 u2 u3 u4 v0 v1 v2 v3 v4
    go_wp2_with fail
    go_loopg [11, 13] pn (fun gk pw iv wr => ∃ (k a b c1 c2 : Nat) (A1 A2 : Option Addr) (pt : ByteArray), k ≤ pn ∧ gk = pn - k ∧ pw = .string pt ∧ iv = .int .i64 (k : Int) ∧ a ≤ k ∧ b ≤ k ∧ Hid (hh ≤ k → pt = p) ∧ Hid (((P.take k).take j).length = a) ∧ Hid (((P.take k).drop hh).length = b) ∧ Hid (Lp StK W w5 g (.cells #[.int .i64 lv, .slice kA kn kc, .slice pA pn pc, .slice bA bn bc, .slice qA qn qc] 31) (.cells #[.int .i64 0, .slice none 0 0, .slice none 0 0, .slice none 0 0, .slice none 0 0] 31) (.cells #[.int .i64 0, .slice none 0 0, .slice none 0 0, .slice none 0 0, .slice none 0 0] 31) ga gb (.cells #[.int .i64 lv, .slice kR1 hh kC1, .slice A1 a c1, .slice none 0 0, .slice none 0 0] 31) (.cells #[.int .i64 lv, .slice kR2 (kn - hh) kC2, .slice A2 b c2, .slice none 0 0, .slice none 0 0] 31) A1 c1 ((P.take k).take j) A2 c2 ((P.take k).drop hh) wr))
    case atStart => exact ⟨0, 0, 0, 0, 0, none, none, _, Nat.zero_le _, rfl, rfl, rfl, Nat.le_refl _, Nat.le_refl _, fun h => absurd h (by omega), by simp [Hid], by simp [Hid], by simpa [Hid] using HL0.out⟩
    case round =>
      obtain ⟨k, a, b, c1, c2, A1, A2, pt, hk, rfl, rfl, rfl, ha, hb, HPT, HLA, HLB, HL⟩ := hrel
      clear HL0 d0 d1 d2 d3 d4
      obtain ⟨d0, d1, d2, d3, d4⟩ := box5 HL.out.b5.b3.x
      obtain ⟨u0, u1, u2, u3, u4⟩ := box5 HL.out.b5.a
      obtain ⟨v0, v1, v2, v3, v4⟩ := box5 HL.out.b5.b
      by_cases hlt : k < pn
      · have hkL : k < P.length := by rw [HPN.out]; exact hlt
        obtain ⟨x, hxx⟩ : ∃ x, x = P[k] := ⟨_, rfl⟩
        have hx' : P[k]? = some x := by rw [hxx]; exact List.getElem?_eq_getElem hkL
        obtain ⟨bx, ox, ex, -, r0⟩ := RdK.str (HH.out.kept HL.out.b5.b3.below).piv.1 hx'
        have hbx0 : bx < W.heap.size := by
          obtain ⟨b', o', e', h', -⟩ := RdK.str HH.out.piv.1 hx'
          rw [ex] at e'
          obtain ⟨rfl, rfl⟩ : bx = b' ∧ ox = o' := by simpa using e'
          exact h'
        have hbx : bx < w5.heap.size := Nat.lt_of_lt_of_le hbx0 (Nat.le_trans hbW HSZ4.out)
        simp only at ex
        subst ex
        have HX := Lib.hid hx'
        obtain ⟨k1, hk1⟩ : ∃ k1, k1 = k + 1 := ⟨_, rfl⟩
        have hw2 : IntKind.i64.wrap ((k : Int) + 1) = (k1 : Int) := by rw [IntKind.wrap_i64]; omega
        have hjj := HJ.out
        clear hxx hkL hx' hbx0
        rcases Nat.lt_trichotomy k1 hh with hlo | hlo | hlo
        · have hlt2 : (k1 : Int) < (hh : Int) := by omega
          go_upto_region 26 with fail
          obtain ⟨S, hS1, hS2⟩ := VK.blocks HL.out.v1
          have hS3 : ∀ k, k ∈ S → k < wr.heap.size := fun k hk => (hS2 k hk).2
          have hbig : ∀ k, k < w5.heap.size → k ∉ S := fun k hk hm => by
            have := (hS2 k hm).1
            omega
          have hgS : g ∉ S := hbig g (by have := HL.out.b5.la; have := HL.out.ha; omega)
          have hbS : ga ∉ S := hbig ga HL.out.ha
          have hxS : bx ∉ S := hbig bx hbx
          have HS1 := Lib.hid hS1
          have hm1 : a + 1 ≤ 1048576 := by omega
          have yr0 := fun q : Drift.Tide S wr [] => Drift.Tide.cell r0 hxS q
          have yd := fun q : Drift.Tide S wr [] => Drift.Tide.cell d2 hgS q
          have yu := fun q : Drift.Tide S wr [] => Drift.Tide.cell u2 hbS q
          clear hbig hgS hbS hxS hS1 hS2 r0 d0 d1 d2 d3 d4 u0 u1 u2 u3 u4 v0 v1 v2 v3 v4
          refine Drift.wp_region_drift S [(0,[]),(1,[]),(2,[]),(3,[]),(4,[]),(5,[]),(6,[]),(7,[]),(8,[])] [8] [7] (by kernel_rfl) (by kernel_rfl) hS3 ?_
          clear hS3
          simp only [Drift.pick, Drift.opsAt, List.getElem?_toArray, List.getElem?_cons_zero, List.getElem?_cons_succ, List.cons_append, List.nil_append, List.filterMap_nil]
          repeat (refine Drift.walk_step (fun K hK => ?_); go_simp; (refine hK _ ?_; clear hK K))
          refine Drift.walk_make rfl Drift.mkwalk_nil (fun b => .slice (some ⟨b, 0, none⟩) 1 1) (.cells #[.string x] 9) (fun W => by go_simp) (fun b1 hb1 hT1 => ?_)
          refine Drift.walk_event rfl Drift.mkwalk_nil (EvApp StK w5.heap.size wr A1 (a + 1) ((P.take k).take j ++ [x])) (fun W2 hk hl2 => ?_) (fun v w5 hv hI _ hTd => ?_)
          · exact evAt_appW (K := StK) Try.underlying27 slinfoS rfl (by decide) (by decide) (.tmp 137) (.tmp 143) rfl w5.heap.size A1 a c1 ((P.take k).take j) rfl HLA.out HL.out.v1 hk b1 1 x rfl (hl2 (b1, .cells #[.string x] 9) (by simp)) hm1 HL.out.size HS1.out
          obtain ⟨A5, c5, rfl, hd5⟩ := hv
          have HD5 := Lib.hid hd5
          clear hI hd5 hTd
          refine Drift.walk_nil ?_
          intro w6 hb6 _
          have HD6 := Lib.hid (HD5.out.then_ hb6 (Nat.le_trans HL.out.size HD5.out.below.size))
          have H6 := Lib.hid (HL.out.b5.grow HD6.out.below HL.out.ha HL.out.hb)
          obtain ⟨u0, u1, u2, u3, u4⟩ := box5 H6.out.a
          have fr := free5 H6.out.a 2
          have HL6 := Lib.hid (HL.out.app1 HD6.out (i := 2) (.slice A5 (a + 1) c5) (.cells #[.int .i64 lv, .slice kR1 hh kC1, .slice A5 (a + 1) c5, .slice none 0 0, .slice none 0 0] 31) (fun w h => by simp [World.setCell, Array.getElem?_modify, h]))
          clear hb6 HD5 HD6 yd yu yr0 hT1 HS1 H6
          simp only [List.length_cons, List.length_nil, List.drop_succ_cons, List.drop_zero, Nat.zero_add, Nat.reduceAdd]
          go_wp2_with fail
          obtain ⟨e1, -⟩ := part_lo (h := j) HX.out (by omega)
          obtain ⟨-, e2⟩ := part_lo (h := hh) HX.out (by omega)
          go_roundg (pn - (k + 1))
          case measure => omega
          case rel => exact ⟨k + 1, a + 1, b, c5, c2, A5, A2, pt, hlt, rfl, rfl, congrArg (Value.int .i64) (by omega), by omega, by omega, fun h => absurd h (by omega), by unfold Hid; rw [e1, List.length_append, HLA.out]; rfl, by unfold Hid; rw [e2]; exact HLB.out, by unfold Hid; rw [e1, e2]; exact HL6.out⟩
        · have hlt2 : (hh : Int) ≤ (k1 : Int) := by omega
          have heq : ((k1 : Int) == (hh : Int)) = true := by simp; omega
          obtain rfl : k = j := by omega
          have hxp : x = p := by
            have e1 := HX.out
            rw [HP0.out] at e1
            exact (Option.some.inj e1).symm
          obtain ⟨e1, e2⟩ := part_mid HX.out (show k + 1 = hh by omega)
          have e3 : hh - 1 = k := by omega
          rw [e3] at e1
          go_wp2_with fail
          go_roundg (pn - (k + 1))
          case measure => omega
          case rel => exact ⟨k + 1, a, b, c1, c2, A1, A2, _, hlt, rfl, rfl, congrArg (Value.int .i64) (by omega), by omega, by omega, (fun _ => by first | rfl | exact hxp), by unfold Hid; rw [e1]; exact HLA.out, by unfold Hid; rw [e2]; exact HLB.out, by unfold Hid; rw [e1, e2]; exact HL.out⟩
        · have hlt2 : (hh : Int) ≤ (k1 : Int) := by omega
          have heq : ((k1 : Int) == (hh : Int)) = false := by simp; omega
          go_upto_region 29 with fail
          obtain ⟨S, hS1, hS2⟩ := VK.blocks HL.out.v2
          have hS3 : ∀ k, k ∈ S → k < wr.heap.size := fun k hk => (hS2 k hk).2
          have hbig : ∀ k, k < w5.heap.size → k ∉ S := fun k hk hm => by
            have := (hS2 k hm).1
            omega
          have hgS : g ∉ S := hbig g (by have := HL.out.b5.la; have := HL.out.ha; omega)
          have hbS : gb ∉ S := hbig gb HL.out.hb
          have hxS : bx ∉ S := hbig bx hbx
          have HS1 := Lib.hid hS1
          have hm1 : b + 1 ≤ 1048576 := by omega
          have yr0 := fun q : Drift.Tide S wr [] => Drift.Tide.cell r0 hxS q
          have yd := fun q : Drift.Tide S wr [] => Drift.Tide.cell d2 hgS q
          have yu := fun q : Drift.Tide S wr [] => Drift.Tide.cell v2 hbS q
          clear hbig hgS hbS hxS hS1 hS2 r0 d0 d1 d2 d3 d4 u0 u1 u2 u3 u4 v0 v1 v2 v3 v4
          refine Drift.wp_region_drift S [(0,[]),(1,[]),(2,[]),(3,[]),(4,[]),(5,[]),(6,[]),(7,[]),(8,[])] [8] [7] (by kernel_rfl) (by kernel_rfl) hS3 ?_
          clear hS3
          simp only [Drift.pick, Drift.opsAt, List.getElem?_toArray, List.getElem?_cons_zero, List.getElem?_cons_succ, List.cons_append, List.nil_append, List.filterMap_nil]
          repeat (refine Drift.walk_step (fun K hK => ?_); go_simp; (refine hK _ ?_; clear hK K))
          refine Drift.walk_make rfl Drift.mkwalk_nil (fun b => .slice (some ⟨b, 0, none⟩) 1 1) (.cells #[.string x] 9) (fun W => by go_simp) (fun b1 hb1 hT1 => ?_)
          refine Drift.walk_event rfl Drift.mkwalk_nil (EvApp StK w5.heap.size wr A2 (b + 1) ((P.take k).drop hh ++ [x])) (fun W2 hk hl2 => ?_) (fun v w5 hv hI _ hTd => ?_)
          · exact evAt_appW (K := StK) Try.underlying27 slinfoS rfl (by decide) (by decide) (.tmp 158) (.tmp 164) rfl w5.heap.size A2 b c2 ((P.take k).drop hh) rfl HLB.out HL.out.v2 hk b1 1 x rfl (hl2 (b1, .cells #[.string x] 9) (by simp)) hm1 HL.out.size HS1.out
          obtain ⟨A5, c5, rfl, hd5⟩ := hv
          have HD5 := Lib.hid hd5
          clear hI hd5 hTd
          refine Drift.walk_nil ?_
          intro w6 hb6 _
          have HD6 := Lib.hid (HD5.out.then_ hb6 (Nat.le_trans HL.out.size HD5.out.below.size))
          have H6 := Lib.hid (HL.out.b5.grow HD6.out.below HL.out.ha HL.out.hb)
          obtain ⟨u0, u1, u2, u3, u4⟩ := box5 H6.out.b
          have fr := free5 H6.out.b 2
          have HL6 := Lib.hid (HL.out.app2 HD6.out (i := 2) (.slice A5 (b + 1) c5) (.cells #[.int .i64 lv, .slice kR2 (kn - hh) kC2, .slice A5 (b + 1) c5, .slice none 0 0, .slice none 0 0] 31) (fun w h => by simp [World.setCell, Array.getElem?_modify, h]))
          clear hb6 HD5 HD6 yd yu yr0 hT1 HS1 H6
          simp only [List.length_cons, List.length_nil, List.drop_succ_cons, List.drop_zero, Nat.zero_add, Nat.reduceAdd]
          go_wp2_with fail
          obtain ⟨e1, -⟩ := part_hi (h := j) HX.out (by omega)
          obtain ⟨-, e2⟩ := part_hi (h := hh) HX.out (by omega)
          go_roundg (pn - (k + 1))
          case measure => omega
          case rel => exact ⟨k + 1, a, b + 1, c1, c5, A1, A5, pt, hlt, rfl, rfl, congrArg (Value.int .i64) (by omega), by omega, by omega, fun _ => HPT.out (by omega), by unfold Hid; rw [e1]; exact HLA.out, by unfold Hid; rw [e2, List.length_append, HLB.out]; rfl, by unfold Hid; rw [e1, e2]; exact HL6.out⟩
      obtain rfl : pn = k := by omega
      have e0 : P.take pn = P := List.take_of_length_le (by rw [HPN.out]; exact Nat.le_refl _)
      rw [e0] at HLA HLB HL
      have hjj := HJ.out
      obtain rfl : j = a := by have := HLA.out; rw [List.length_take, HPN.out] at this; omega
      obtain rfl : pn - hh = b := by have := HLB.out; rw [List.length_drop, HPN.out] at this; omega
      obtain rfl : pt = p := HPT.out hpn2
      obtain ⟨pR1, rfl⟩ : ∃ z, z = A1 := ⟨_, rfl⟩
      obtain ⟨pR2, rfl⟩ : ∃ z, z = A2 := ⟨_, rfl⟩
      obtain ⟨pC1, rfl⟩ : ∃ z, z = c1 := ⟨_, rfl⟩
      obtain ⟨pC2, rfl⟩ : ∃ z, z = c2 := ⟨_, rfl⟩
      obtain ⟨w6, rfl⟩ : ∃ z, z = wr := ⟨_, rfl⟩
      have HP1 : Hid (VK StK w6 w4.heap.size pR1 pC1 (P.take j)) := HL.out.v1.mono HSZ4.out
      have HP2 : Hid (VK StK w6 w4.heap.size pR2 pC2 (P.drop hh)) := HL.out.v2.mono HSZ4.out
      replace HK1 := Lib.hid (vk_pair HK1.out HL.out.into HGA.out.1 HGA.out.2)
      replace HK2 := Lib.hid (vk_pair HK2.out HL.out.into HGA.out.1 HGA.out.2)
      have HPL1 : Hid ((P.take j).length = j) := HLA
      have HPL2 : Hid ((P.drop hh).length = pn - hh) := HLB
      have HSZ5 : Hid (w4.heap.size ≤ w6.heap.size) := Nat.le_trans HSZ4.out HL.out.size
      have HL0 := Lib.hid (Lp.start (K := MgK) HL.out.b5)
      clear hlt hk ha hb HLA HLB HL u0 u1 u2 u3 u4 v0 v1 v2 v3 v4 hjj HPT
      go_wp2_with fail
      go_loopg [14] bn (fun gk iv wr => ∃ (k a b c1 c2 : Nat) (A1 A2 : Option Addr), k ≤ bn ∧ gk = bn - k ∧ iv = .int .i64 (k : Int) ∧ a ≤ k ∧ b ≤ k ∧ Hid ((belowM pt (B.take k)).length = a) ∧ Hid ((restM pt (B.take k)).length = b) ∧ Hid (Lp MgK W w6 g (.cells #[.int .i64 lv, .slice kA kn kc, .slice pA pn pc, .slice bA bn bc, .slice qA qn qc] 31) (.cells #[.int .i64 0, .slice none 0 0, .slice none 0 0, .slice none 0 0, .slice none 0 0] 31) (.cells #[.int .i64 0, .slice none 0 0, .slice none 0 0, .slice none 0 0, .slice none 0 0] 31) ga gb (.cells #[.int .i64 lv, .slice kR1 hh kC1, .slice pR1 j pC1, .slice A1 a c1, .slice none 0 0] 31) (.cells #[.int .i64 lv, .slice kR2 (kn - hh) kC2, .slice pR2 (pn - hh) pC2, .slice A2 b c2, .slice none 0 0] 31) A1 c1 (belowM pt (B.take k)) A2 c2 (restM pt (B.take k)) wr))
      case atStart => exact ⟨0, 0, 0, 0, 0, none, none, Nat.zero_le _, rfl, rfl, Nat.le_refl _, Nat.le_refl _, rfl, rfl, HL0⟩
      case round =>
        obtain ⟨k, a, b, c1, c2, A1, A2, hk, rfl, rfl, ha, hb, HLA, HLB, HL⟩ := hrel
        clear HL0 d0 d1 d2 d3 d4
        obtain ⟨d0, d1, d2, d3, d4⟩ := box5 HL.out.b5.b3.x
        obtain ⟨u0, u1, u2, u3, u4⟩ := box5 HL.out.b5.a
        obtain ⟨v0, v1, v2, v3, v4⟩ := box5 HL.out.b5.b
        by_cases hlt : k < bn
        · have hkL : k < B.length := by rw [HBN.out]; exact hlt
          obtain ⟨x, hxx⟩ : ∃ x, x = B[k] := ⟨_, rfl⟩
          have hx' : B[k]? = some x := by rw [hxx]; exact List.getElem?_eq_getElem hkL
          obtain ⟨bx, ox, ex, -, r0, r1, r2⟩ := RdK.msg (HH.out.kept HL.out.b5.b3.below).buf.1 hx'
          have hbx0 : bx < W.heap.size := by
            obtain ⟨b', o', e', h', -, -, -⟩ := RdK.msg HH.out.buf.1 hx'
            rw [ex] at e'
            obtain ⟨rfl, rfl⟩ : bx = b' ∧ ox = o' := by simpa using e'
            exact h'
          have hbx : bx < w6.heap.size := Nat.lt_of_lt_of_le hbx0 (Nat.le_trans hbW HSZ5.out)
          simp only at ex
          subst ex
          have HX := Lib.hid hx'
          have hw2 : IntKind.i64.wrap ((k : Int) + 1) = ((k + 1 : Nat) : Int) := by rw [IntKind.wrap_i64]; omega
          have HN := Lib.hid (belowM_next (p := pt) HX.out)
          replace cP := cP x (List.mem_of_getElem? HX.out)
          have HC : Hid (∀ w, Below wr.heap.size wr w → w.cell? ⟨bx, ox + k * 3, none⟩ = some (.string x.1) ∧ w.cell? ⟨bx, ox + k * 3 + 1, none⟩ = some (.bool x.2.1) ∧ w.cell? ⟨bx, ox + k * 3 + 2, none⟩ = some (.string x.2.2)) := fun w hb => by
            obtain ⟨b', o', e', -, h0, h1, h2⟩ := RdK.msg ((HH.out.kept HL.out.b5.b3.below).kept hb).buf.1 HX.out
            obtain ⟨rfl, rfl⟩ : bx = b' ∧ ox = o' := by simpa using e'
            exact ⟨h0, h1, h2⟩
          clear hxx hkL hx' hbx0
          obtain ⟨z, hz⟩ : ∃ z, z = cmpB x.1 pt := ⟨_, rfl⟩
          rw [← hz] at cP HN
          clear hz
          by_cases hlo : z < 0
          · have HNX := HN.out
            rw [if_pos hlo, if_pos hlo, List.append_nil] at HNX
            obtain ⟨e1, e2⟩ := HNX
            have HE1 := Lib.hid e1
            have HE2 := Lib.hid e2
            clear e1 e2 HN
            go_upto_region 34 with (go_at_call 26; refine (cP _).out.mono ?_; rintro e w8 ⟨rfl, hb8⟩)
            clear d0 d1 d2 d3 d4 u0 u1 u2 u3 u4 v0 v1 v2 v3 v4 r0 r1 r2 cP
            obtain ⟨r0, r1, r2⟩ := HC.out w8 hb8
            replace HL := Lib.hid (HL.out.kept hb8)
            clear HC hb8
            obtain ⟨d0, d1, d2, d3, d4⟩ := box5 HL.out.b5.b3.x
            obtain ⟨u0, u1, u2, u3, u4⟩ := box5 HL.out.b5.a
            obtain ⟨v0, v1, v2, v3, v4⟩ := box5 HL.out.b5.b
            obtain ⟨S, hS1, hS2⟩ := VK.blocks HL.out.v1
            have hS3 : ∀ k, k ∈ S → k < w8.heap.size := fun k hk => (hS2 k hk).2
            have hbig : ∀ k, k < w6.heap.size → k ∉ S := fun k hk hm => by
              have := (hS2 k hm).1
              omega
            have hgS : g ∉ S := hbig g (by have := HL.out.b5.la; have := HL.out.ha; omega)
            have hbS : ga ∉ S := hbig ga HL.out.ha
            have hxS : bx ∉ S := hbig bx hbx
            have HS1 := Lib.hid hS1
            have hm1 : a + 1 ≤ 1048576 := by omega
            have yr0 := fun q : Drift.Tide S w8 [] => Drift.Tide.cell r0 hxS q
            have yr1 := fun q : Drift.Tide S w8 [] => Drift.Tide.cell r1 hxS q
            have yr2 := fun q : Drift.Tide S w8 [] => Drift.Tide.cell r2 hxS q
            have yd := fun q : Drift.Tide S w8 [] => Drift.Tide.cell d3 hgS q
            have yu := fun q : Drift.Tide S w8 [] => Drift.Tide.cell u3 hbS q
            clear hbig hgS hbS hxS hS1 hS2 r0 r1 r2 d0 d1 d2 d3 d4 u0 u1 u2 u3 u4 v0 v1 v2 v3 v4
            refine Drift.wp_region_drift S [(0,[]),(1,[]),(2,[]),(3,[]),(4,[]),(5,[]),(6,[]),(7,[]),(8,[])] [8] [7] (by kernel_rfl) (by kernel_rfl) hS3 ?_
            clear hS3
            simp only [Drift.pick, Drift.opsAt, List.getElem?_toArray, List.getElem?_cons_zero, List.getElem?_cons_succ, List.cons_append, List.nil_append, List.filterMap_nil]
            repeat (refine Drift.walk_step (fun K hK => ?_); go_simp; (refine hK _ ?_; clear hK K))
            refine Drift.walk_make rfl Drift.mkwalk_nil (fun b => .slice (some ⟨b, 0, none⟩) 1 1) (.cells #[.string x.1, .bool x.2.1, .string x.2.2] 48) (fun W => by go_simp) (fun b1 hb1 hT1 => ?_)
            refine Drift.walk_event rfl Drift.mkwalk_nil (EvApp MgK w6.heap.size w8 A1 (a + 1) (belowM pt (B.take k) ++ [x])) (fun W2 hk hl2 => ?_) (fun v w5 hv hI _ hTd => ?_)
            · exact evAt_appW (K := MgK) Try.underlying28 mginfo rfl (by decide) (by decide) (.tmp 184) (.tmp 190) rfl w6.heap.size A1 a c1 (belowM pt (B.take k)) rfl HLA.out HL.out.v1 hk b1 1 x rfl (hl2 (b1, .cells #[.string x.1, .bool x.2.1, .string x.2.2] 48) (by simp)) hm1 HL.out.size HS1.out
            obtain ⟨A5, c5, rfl, hd5⟩ := hv
            have HD5 := Lib.hid hd5
            clear hI hd5 hTd
            refine Drift.walk_nil ?_
            intro w6 hb6 _
            have HD6 := Lib.hid (HD5.out.then_ hb6 (Nat.le_trans HL.out.size HD5.out.below.size))
            have H6 := Lib.hid (HL.out.b5.grow HD6.out.below HL.out.ha HL.out.hb)
            obtain ⟨u0, u1, u2, u3, u4⟩ := box5 H6.out.a
            have fr := free5 H6.out.a 3
            have HL6 := Lib.hid (HL.out.app1 HD6.out (i := 3) (.slice A5 (a + 1) c5) (.cells #[.int .i64 lv, .slice kR1 hh kC1, .slice pR1 j pC1, .slice A5 (a + 1) c5, .slice none 0 0] 31) (fun w h => by simp [World.setCell, Array.getElem?_modify, h]))
            clear hb6 HD5 HD6 yd yu yr0 yr1 yr2 hT1 HS1 H6
            simp only [List.length_cons, List.length_nil, List.drop_succ_cons, List.drop_zero, Nat.zero_add, Nat.reduceAdd]
            go_wp2_with fail
            go_roundg (bn - (k + 1))
            case measure => omega
            case rel => exact ⟨k + 1, a + 1, b, c5, c2, A5, A2, hlt, rfl, by go_num, by omega, by omega, by unfold Hid; rw [HE1.out, List.length_append, HLA.out]; rfl, by unfold Hid; rw [HE2.out]; exact HLB.out, by unfold Hid; rw [HE1.out, HE2.out]; exact HL6.out⟩
          · have hlt2 : 0 ≤ z := by omega
            have HNX := HN.out
            rw [if_neg hlo, if_neg hlo, List.append_nil] at HNX
            obtain ⟨e1, e2⟩ := HNX
            have HE1 := Lib.hid e1
            have HE2 := Lib.hid e2
            clear e1 e2 HN hlo
            go_upto_region 35 with (go_at_call 26; refine (cP _).out.mono ?_; rintro e w8 ⟨rfl, hb8⟩)
            clear d0 d1 d2 d3 d4 u0 u1 u2 u3 u4 v0 v1 v2 v3 v4 r0 r1 r2 cP
            obtain ⟨r0, r1, r2⟩ := HC.out w8 hb8
            replace HL := Lib.hid (HL.out.kept hb8)
            clear HC hb8
            obtain ⟨d0, d1, d2, d3, d4⟩ := box5 HL.out.b5.b3.x
            obtain ⟨u0, u1, u2, u3, u4⟩ := box5 HL.out.b5.a
            obtain ⟨v0, v1, v2, v3, v4⟩ := box5 HL.out.b5.b
            obtain ⟨S, hS1, hS2⟩ := VK.blocks HL.out.v2
            have hS3 : ∀ k, k ∈ S → k < w8.heap.size := fun k hk => (hS2 k hk).2
            have hbig : ∀ k, k < w6.heap.size → k ∉ S := fun k hk hm => by
              have := (hS2 k hm).1
              omega
            have hgS : g ∉ S := hbig g (by have := HL.out.b5.la; have := HL.out.ha; omega)
            have hbS : gb ∉ S := hbig gb HL.out.hb
            have hxS : bx ∉ S := hbig bx hbx
            have HS1 := Lib.hid hS1
            have hm1 : b + 1 ≤ 1048576 := by omega
            have yr0 := fun q : Drift.Tide S w8 [] => Drift.Tide.cell r0 hxS q
            have yr1 := fun q : Drift.Tide S w8 [] => Drift.Tide.cell r1 hxS q
            have yr2 := fun q : Drift.Tide S w8 [] => Drift.Tide.cell r2 hxS q
            have yd := fun q : Drift.Tide S w8 [] => Drift.Tide.cell d3 hgS q
            have yu := fun q : Drift.Tide S w8 [] => Drift.Tide.cell v3 hbS q
            clear hbig hgS hbS hxS hS1 hS2 r0 r1 r2 d0 d1 d2 d3 d4 u0 u1 u2 u3 u4 v0 v1 v2 v3 v4
            refine Drift.wp_region_drift S [(0,[]),(1,[]),(2,[]),(3,[]),(4,[]),(5,[]),(6,[]),(7,[]),(8,[])] [8] [7] (by kernel_rfl) (by kernel_rfl) hS3 ?_
            clear hS3
            simp only [Drift.pick, Drift.opsAt, List.getElem?_toArray, List.getElem?_cons_zero, List.getElem?_cons_succ, List.cons_append, List.nil_append, List.filterMap_nil]
            repeat (refine Drift.walk_step (fun K hK => ?_); go_simp; (refine hK _ ?_; clear hK K))
            refine Drift.walk_make rfl Drift.mkwalk_nil (fun b => .slice (some ⟨b, 0, none⟩) 1 1) (.cells #[.string x.1, .bool x.2.1, .string x.2.2] 48) (fun W => by go_simp) (fun b1 hb1 hT1 => ?_)
            refine Drift.walk_event rfl Drift.mkwalk_nil (EvApp MgK w6.heap.size w8 A2 (b + 1) (restM pt (B.take k) ++ [x])) (fun W2 hk hl2 => ?_) (fun v w5 hv hI _ hTd => ?_)
            · exact evAt_appW (K := MgK) Try.underlying28 mginfo rfl (by decide) (by decide) (.tmp 194) (.tmp 200) rfl w6.heap.size A2 b c2 (restM pt (B.take k)) rfl HLB.out HL.out.v2 hk b1 1 x rfl (hl2 (b1, .cells #[.string x.1, .bool x.2.1, .string x.2.2] 48) (by simp)) hm1 HL.out.size HS1.out
            obtain ⟨A5, c5, rfl, hd5⟩ := hv
            have HD5 := Lib.hid hd5
            clear hI hd5 hTd
            refine Drift.walk_nil ?_
            intro w6 hb6 _
            have HD6 := Lib.hid (HD5.out.then_ hb6 (Nat.le_trans HL.out.size HD5.out.below.size))
            have H6 := Lib.hid (HL.out.b5.grow HD6.out.below HL.out.ha HL.out.hb)
            obtain ⟨u0, u1, u2, u3, u4⟩ := box5 H6.out.b
            have fr := free5 H6.out.b 3
            have HL6 := Lib.hid (HL.out.app2 HD6.out (i := 3) (.slice A5 (b + 1) c5) (.cells #[.int .i64 lv, .slice kR2 (kn - hh) kC2, .slice pR2 (pn - hh) pC2, .slice A5 (b + 1) c5, .slice none 0 0] 31) (fun w h => by simp [World.setCell, Array.getElem?_modify, h]))
            clear hb6 HD5 HD6 yd yu yr0 yr1 yr2 hT1 HS1 H6
            simp only [List.length_cons, List.length_nil, List.drop_succ_cons, List.drop_zero, Nat.zero_add, Nat.reduceAdd]
            go_wp2_with fail
            go_roundg (bn - (k + 1))
            case measure => omega
            case rel => exact ⟨k + 1, a, b + 1, c1, c5, A1, A5, hlt, rfl, by go_num, by omega, by omega, by unfold Hid; rw [HE1.out]; exact HLA.out, by unfold Hid; rw [HE2.out, List.length_append, HLB.out]; rfl, by unfold Hid; rw [HE1.out, HE2.out]; exact HL6.out⟩
        obtain rfl : bn = k := by omega
        have e0 : B.take bn = B := List.take_of_length_le (by rw [HBN.out]; exact Nat.le_refl _)
        rw [e0] at HLA HLB HL
        have HX5 := Lib.hid HL.out.b5
        have HV1 := Lib.hid (HL.out.v1.mono HSZ5.out)
        have HV2 := Lib.hid (HL.out.v2.mono HSZ5.out)
        replace HK1 := Lib.hid (vk_pair HK1.out HL.out.into HGA.out.1 HGA.out.2)
        replace HK2 := Lib.hid (vk_pair HK2.out HL.out.into HGA.out.1 HGA.out.2)
        replace HP1 := Lib.hid (vk_pair HP1.out HL.out.into HGA.out.1 HGA.out.2)
        replace HP2 := Lib.hid (vk_pair HP2.out HL.out.into HGA.out.1 HGA.out.2)
        replace HGA := Lib.hid HGA.out.1
        clear hlt hk ha hb HL u0 u1 u2 u3 u4 v0 v1 v2 v3 v4
        go_upto_region 36 with fail
        obtain ⟨m0, m1, m2, m3, m4⟩ := box5 HX5.out.a
        obtain ⟨n0, n1, n2, n3, n4⟩ := box5 HX5.out.b
        have hgm : ga ∉ [g + 1, g + 1 + 1] := by have := HX5.out.la; simp; omega
        have hgn : gb ∉ [g + 1, g + 1 + 1] := by have := HX5.out.lb; simp; omega
        have tm0 := fun q : Drift.Tide [g + 1, g + 1 + 1] wr [] => Drift.Tide.cell m0 hgm q
        have tm1 := fun q : Drift.Tide [g + 1, g + 1 + 1] wr [] => Drift.Tide.cell m1 hgm q
        have tm2 := fun q : Drift.Tide [g + 1, g + 1 + 1] wr [] => Drift.Tide.cell m2 hgm q
        have tm3 := fun q : Drift.Tide [g + 1, g + 1 + 1] wr [] => Drift.Tide.cell m3 hgm q
        have tm4 := fun q : Drift.Tide [g + 1, g + 1 + 1] wr [] => Drift.Tide.cell m4 hgm q
        have tn0 := fun q : Drift.Tide [g + 1, g + 1 + 1] wr [] => Drift.Tide.cell n0 hgn q
        have tn1 := fun q : Drift.Tide [g + 1, g + 1 + 1] wr [] => Drift.Tide.cell n1 hgn q
        have tn2 := fun q : Drift.Tide [g + 1, g + 1 + 1] wr [] => Drift.Tide.cell n2 hgn q
        have tn3 := fun q : Drift.Tide [g + 1, g + 1 + 1] wr [] => Drift.Tide.cell n3 hgn q
        have tn4 := fun q : Drift.Tide [g + 1, g + 1 + 1] wr [] => Drift.Tide.cell n4 hgn q
        have hS : ∀ k, k ∈ [g + 1, g + 1 + 1] → k < wr.heap.size := fun k hk => by
          have h9 := HX5.out.b3.lt
          have : k = g + 1 ∨ k = g + 1 + 1 := by simpa using hk
          omega
        clear m0 m1 m2 m3 m4 n0 n1 n2 n3 n4 hgm hgn
        refine Drift.wp_region_drift [g + 1, g + 1 + 1] [(0,[]),(1,[]),(2,[]),(3,[]),(4,[]),(5,[]),(6,[])] [3, 4] [] (by kernel_rfl) (by kernel_rfl) hS ?_
        clear hS
        simp only [Drift.pick, Drift.opsAt, List.getElem?_toArray, List.getElem?_cons_zero, List.getElem?_cons_succ, List.cons_append, List.nil_append, List.filterMap_nil]
        repeat (refine Drift.walk_step (fun K hK => ?_); go_simp; (refine hK _ ?_; clear hK K))
        refine Drift.walk_event rfl Drift.mkwalk_nil (EvOut wr (g + 1) #[.int .i64 lv, .slice kR1 hh kC1, .slice pR1 j pC1, .slice A1 a c1, .slice none 0 0]) (fun W2 hk _ => ?_) (fun v w20 hv hI _ hTd1 => ?_)
        · have hy := (HX5.out.kept hk).b3.y
          obtain ⟨s0, s1, s2, s3, s4⟩ := box5 hy
          have y0 := free5 hy 0; have y1 := free5 hy 1; have y2 := free5 hy 2; have y3 := free5 hy 3; have y4 := free5 hy 4
          have hs5 := set5_at hy (.int .i64 lv) (.slice kR1 hh kC1) (.slice pR1 j pC1) (.slice A1 a c1) (.slice none 0 0)
          have hi5 := into_set5 W2 (g + 1) (.int .i64 lv) (.slice kR1 hh kC1) (.slice pR1 j pC1) (.slice A1 a c1) (.slice none 0 0)
          unfold set5 at hs5 hi5
          have HS5 := Lib.hid hs5
          have HI4 := Lib.hid hi5
          have HI5 : Hid (Flow.Into [g + 1] wr _) := (Flow.Into.of_below hk).trans hi5
          clear hs5 hi5 hy
          go_simp
          exact ⟨⟨rfl, HS5.out, HI5.out⟩, into_more HI4.out (by simp)⟩
        obtain ⟨rfl, hv1, hi1⟩ := hv
        have HZ : Hid (w20.heap[g + 1 + 1]? = some (.cells #[.int .i64 0, .slice none 0 0, .slice none 0 0, .slice none 0 0, .slice none 0 0] 31)) := (hi1.block (g + 1 + 1) HX5.out.b3.lt (by simp)).trans HX5.out.b3.z
        clear hI
        refine Drift.walk_event rfl Drift.mkwalk_nil (EvOut w20 (g + 1 + 1) #[.int .i64 lv, .slice kR2 (kn - hh) kC2, .slice pR2 (pn - hh) pC2, .slice A2 b c2, .slice none 0 0]) (fun W2 hk _ => ?_) (fun v w21 hv hI _ hTd2 => ?_)
        · have hy := kept3 HZ.out hk
          obtain ⟨s0, s1, s2, s3, s4⟩ := box5 hy
          have y0 := free5 hy 0; have y1 := free5 hy 1; have y2 := free5 hy 2; have y3 := free5 hy 3; have y4 := free5 hy 4
          have hs5 := set5_at hy (.int .i64 lv) (.slice kR2 (kn - hh) kC2) (.slice pR2 (pn - hh) pC2) (.slice A2 b c2) (.slice none 0 0)
          have hi5 := into_set5 W2 (g + 1 + 1) (.int .i64 lv) (.slice kR2 (kn - hh) kC2) (.slice pR2 (pn - hh) pC2) (.slice A2 b c2) (.slice none 0 0)
          unfold set5 at hs5 hi5
          have HS5 := Lib.hid hs5
          have HI4 := Lib.hid hi5
          have HI5 : Hid (Flow.Into [g + 1 + 1] w20 _) := (Flow.Into.of_below hk).trans hi5
          clear hs5 hi5 hy
          go_simp
          exact ⟨⟨rfl, HS5.out, HI5.out⟩, into_more HI4.out (by simp)⟩
        obtain ⟨rfl, hv2, hi2⟩ := hv
        clear hI HZ
        repeat (refine Drift.walk_step (fun K hK => ?_); go_simp; (refine hK _ ?_; clear hK K))
        refine Drift.walk_nil ?_
        intro w22 hb22 _
        have HI : Hid (Flow.Into [g + 1, g + 1 + 1] wr w22) := ((into_more hi1 (by simp)).trans (into_more hi2 (by simp))).trans (Flow.Into.of_below hb22)
        have hy1 := (hi2.block (g + 1) (Array.getElem?_eq_some_iff.1 hv1).1 (by simp)).trans hv1
        obtain ⟨s0, s1, s2, s3, s4⟩ := box5 (kept3 hy1 hb22)
        obtain ⟨u0, u1, u2, u3, u4⟩ := box5 (kept3 hv2 hb22)
        have HBW : Hid (Below W.heap.size W w22) := below_into HX5.out.b3.below HI.out (fun k hk => by
          have h9 := HX5.out.b3.at_
          have : k = g + 1 ∨ k = g + 1 + 1 := by simpa using hk
          omega) HX5.out.b3.below.size
        replace HK1 := Lib.hid (vk_pair HK1.out HI.out (by have := HX5.out.la; have := HGA.out; omega) (by have := HX5.out.la; have := HGA.out; omega))
        replace HK2 := Lib.hid (vk_pair HK2.out HI.out (by have := HX5.out.la; have := HGA.out; omega) (by have := HX5.out.la; have := HGA.out; omega))
        replace HP1 := Lib.hid (vk_pair HP1.out HI.out (by have := HX5.out.la; have := HGA.out; omega) (by have := HX5.out.la; have := HGA.out; omega))
        replace HP2 := Lib.hid (vk_pair HP2.out HI.out (by have := HX5.out.la; have := HGA.out; omega) (by have := HX5.out.la; have := HGA.out; omega))
        replace HV1 := Lib.hid (vk_pair HV1.out HI.out (by have := HX5.out.la; have := HGA.out; omega) (by have := HX5.out.la; have := HGA.out; omega))
        replace HV2 := Lib.hid (vk_pair HV2.out HI.out (by have := HX5.out.la; have := HGA.out; omega) (by have := HX5.out.la; have := HGA.out; omega))
        clear hTd1 hTd2 hv1 hv2 hi1 hi2 hy1 hb22 tm0 tm1 tm2 tm3 tm4 tn0 tn1 tn2 tn3 tn4
        simp only [List.length_cons, List.length_nil, List.drop_succ_cons, List.drop_zero, Nat.zero_add, Nat.reduceAdd]
        go_wp2_with fail
        refine bodyPost_ret (v := .tuple #[.agg #[.int .i64 lv, .slice kR1 hh kC1, .slice pR1 j pC1, .slice A1 a c1, .slice none 0 0], .agg #[.int .i64 lv, .slice kR2 (kn - hh) kC2, .slice pR2 (pn - hh) pC2, .slice A2 b c2, .slice none 0 0], .string pt, .bool true]) (by simp [results, Try.results11, go_sem, s0, s1, s2, s3, s4, u0, u1, u2, u3, u4]) rfl ⟨⟨_, rfl, ⟨kR1, kC1, pR1, pC1, A1, c1, none, 0⟩, ⟨kR2, kC2, pR2, pC2, A2, c2, none, 0⟩, ?_, ⟨HK1.out.rc, ?_, HV1.out.rc, RC.nil _ _ _⟩, ⟨HK2.out.rc, HP2.out.rc, HV2.out.rc, RC.nil _ _ _⟩⟩, HBW.out⟩
        · have hjj := HJ.out
          have e5 : hh - 1 = j := by omega
          simp only [ndCs, HKL1.out, HKL2.out, HPL1.out, HPL2.out, HLA.out, HLB.out, List.length_nil, e5]
        · have hjj := HJ.out
          have e5 : hh - 1 = j := by omega
          rw [e5]
          exact HP1.out.rc
end No
end Go.Proofs.Ytohnllclkpflaaa
