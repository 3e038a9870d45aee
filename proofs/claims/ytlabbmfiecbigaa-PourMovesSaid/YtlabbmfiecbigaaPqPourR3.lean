/-
  PourR3. Put together by pack.py.
-/
import Derived.Test.YtlabbmfiecbigaaPqPourR2
import Derived.Test.YtlabbmfiecbigaaPkAJ

namespace Go.Proofs.Ytlabbmfiecbigaa
open Go.RowKit
namespace No
open Mem Lx Bu Lf Fa
set_option maxRecDepth 100000 in
set_option maxHeartbeats 16000000 in
theorem RPour_inner {W : World} (c : Cfg) {p k : Nd} {a b : At} (ha : NdIn W p a) (hb : NdIn W k b) (hp : Sz p) (hk : Sz k) (i most : Int) (hlv : k.lv ≠ 0) (hl0 : 0 < k.lv) (hkr : Ri k.buf) (hwl : IntKind.i64.wrap (k.lv + 1) = k.lv + 1) (hwr : wrap64 (c.buffer - (k.buf.length : Int)) = c.buffer - k.buf.length) (hn : ¬ NoPour p i k) : Calls Try.prog 8 #[.agg (cfCs c), .agg (ndCs p a), .int .i64 i, .agg (ndCs k b), .int .i64 most] W fun e w' => (∃ v, e = .returned v ∧ EvPour (pourN c p i k most) v w') ∧ Below W.heap.size W w' := by
  rw [pourN_yes hn]
  obtain ⟨hn1, hn2, hn3⟩ : 0 ≤ i ∧ i < (p.kids.length : Int) ∧ p.lv = k.lv + 1 := by unfold NoPour at hn; omega
  clear hn
  unfold goN intoN
  rw [if_neg hlv]
  obtain ⟨rm, hrm⟩ : ∃ rm, rm = roomN c k most := ⟨_, rfl⟩
  rw [← hrm]
  unfold roomN at hrm
  rw [if_neg hlv] at hrm
  obtain ⟨rr, hrr⟩ : ∃ rr, rr = c.buffer - (k.buf.length : Int) := ⟨_, rfl⟩
  rw [← hrr] at hrm
  have HWR : Hid (wrap64 (c.buffer - (k.buf.length : Int)) = rr) := by
    rw [hrr]
    exact hwr
  clear hwr
  have HKR := Lib.hid hkr
  have hzz : (k.lv == 0) = false := by simpa using hlv
  have HRM := Lib.hid hrm
  clear hrr hkr hrm
  obtain ⟨f, hf⟩ : ∃ f, f = wayIs p.piv i := ⟨_, rfl⟩
  rw [← hf]
  have cW := fun (w : World) (h : Below W.heap.size W w) (key : ByteArray) => Lib.hid (RWay_any (c := a.pc) (ha.piv.1.kept h) key hp.piv (Nat.le_trans hp.pl (by decide)))
  have HFX : Hid (∀ x : Mg, f x = decide (((wayS p.piv x.1 : Nat) : Int) = i)) := fun x => by rw [hf]; rfl
  have hpb := hp.buf
  have hpl := hp.bl
  have hkq := hk.buf
  have hkl := hk.bl
  clear hf hp hk
  obtain ⟨cB, cY, cF, cN, cU, cL, cKy, cV⟩ := c
  obtain ⟨lv, K, P, B, Q⟩ := p
  obtain ⟨lv2, K2, P2, B2, Q2⟩ := k
  obtain ⟨kA, kc, pA, pc, bA, bc, qA, qc⟩ := a
  obtain ⟨kA2, kc2, pA2, pc2, bA2, bc2, qA2, qc2⟩ := b
  unfold ndCs cfCs at *
  simp only at *
  obtain ⟨haK, haP, haB, haQ⟩ := ha
  obtain ⟨hbK, hbP, hbB, hbQ⟩ := hb
  simp only at *
  have HKQ := Lib.hid hkq
  have HPB := Lib.hid hpb
  generalize hkn : K.length = kn at *
  have HKN := Lib.hid hkn
  generalize hpn : P.length = pn at *
  have HPN := Lib.hid hpn
  generalize hbn : B.length = bn at *
  have HBN := Lib.hid hbn
  generalize hqn : Q.length = qn at *
  have HQN := Lib.hid hqn
  generalize hkn2 : K2.length = kn2 at *
  have HKN2 := Lib.hid hkn2
  generalize hpn2 : P2.length = pn2 at *
  have HPN2 := Lib.hid hpn2
  generalize hbn2 : B2.length = bn2 at *
  have HBN2 := Lib.hid hbn2
  generalize hqn2 : Q2.length = qn2 at *
  have HQN2 := Lib.hid hqn2
  have HAK := Lib.hid haK; have HAP := Lib.hid haP; have HAB := Lib.hid haB; have HAQ := Lib.hid haQ
  have HBK := Lib.hid hbK; have HBP := Lib.hid hbP; have HBB := Lib.hid hbB; have HBQ := Lib.hid hbQ
  clear haK haP haB haQ hbK hbP hbB hbQ hkq hpb hkn hpn hbn hqn hkn2 hpn2 hbn2 hqn2
  subst hn3
  go_enter Try.func8, Try.ntmps8
  go_upto_region 1 with fail
  have HX5 := Lib.hid (Q5.new W (.cells #[.int .i64 cB, .int .i64 cY, .int .i64 cF, .int .i64 cN, .int .i64 cU, .int .i64 cL, .int .i64 cKy, .int .i64 cV] 23) (.cells #[.int .i64 (lv2 + 1), .slice kA kn kc, .slice pA pn pc, .slice bA bn bc, .slice qA qn qc] 29) (.cells #[.int .i64 lv2, .slice kA2 kn2 kc2, .slice pA2 pn2 pc2, .slice bA2 bn2 bc2, .slice qA2 qn2 qc2] 29) (.cells #[.int .i64 0, .slice none 0 0, .slice none 0 0, .slice none 0 0, .slice none 0 0] 29) (.cells #[.int .i64 0, .slice none 0 0, .slice none 0 0, .slice none 0 0, .slice none 0 0] 29))
  generalize ((((W.alloc (.cells #[.int .i64 cB, .int .i64 cY, .int .i64 cF, .int .i64 cN, .int .i64 cU, .int .i64 cL, .int .i64 cKy, .int .i64 cV] 23)).alloc (.cells #[.int .i64 (lv2 + 1), .slice kA kn kc, .slice pA pn pc, .slice bA bn bc, .slice qA qn qc] 29)).alloc (.cells #[.int .i64 lv2, .slice kA2 kn2 kc2, .slice pA2 pn2 pc2, .slice bA2 bn2 bc2, .slice qA2 qn2 qc2] 29)).alloc (.cells #[.int .i64 0, .slice none 0 0, .slice none 0 0, .slice none 0 0, .slice none 0 0] 29)).alloc (.cells #[.int .i64 0, .slice none 0 0, .slice none 0 0, .slice none 0 0, .slice none 0 0] 29) = w1 at *
  obtain ⟨g, hg⟩ : ∃ g, g = W.heap.size := ⟨_, rfl⟩
  rw [← hg] at HX5
  simp only [← hg]
  clear hg
  obtain ⟨d0, d1, d2, d3, d4⟩ := box5 HX5.out.b3.y
  obtain ⟨e0, e1, e2, e3, e4⟩ := box5 HX5.out.b3.z
  obtain ⟨r0, r1, r2, r3, r4, r5, r6, r7⟩ := box8 HX5.out.b3.x
  go_upto_region 6 with fail
  rw [HWR.out]
  clear d0 d1 d2 d3 d4 e0 e1 e2 e3 e4 r0 r1 r2 r3 r4 r5 r6 r7
  have HV0 : Hid (VK MgK (w1.alloc (.cells #[] 45)) w1.heap.size (some ⟨w1.heap.size, 0, none⟩) 0 []) := VK.lit (K := MgK) w1 w1.heap.size (Nat.le_refl _)
  have HG1 := Lib.hid HX5.out.size
  have HB1 := Lib.hid HX5.out.b3.below
  have hb0 : Below w1.heap.size w1 (w1.alloc (.cells #[] 45)) := (Below.refl _ _).alloc (Nat.le_refl _) _
  replace HX5 := Lib.hid (HX5.out.kept hb0)
  have HQ0 := Lib.hid ((HBB.out.kept HB1.out).kept hb0)
  have HZ0 : Hid (w1.heap.size ≤ (w1.alloc (.cells #[] 45)).heap.size) := hb0.size
  have HAP0 : Hid (Apt W.heap.size w1.heap.size bn2 (some ⟨w1.heap.size, 0, none⟩) bA2) := fun y h0 hy => by
    obtain ⟨yb, yo, e, hyl, -⟩ := HBB.out.1 (by rw [HBN2.out]; exact h0)
    rw [hy] at e
    cases e
    have := HB1.out.size
    refine ⟨.inl hyl, fun x hx => ?_⟩
    cases hx
    simp only
    omega
  obtain ⟨S1, hS1⟩ : ∃ S1, S1 = w1.heap.size := ⟨_, rfl⟩
  rw [← hS1] at HV0 HG1 HAP0 HZ0
  simp only [← hS1]
  have HS1 : Hid (W.heap.size ≤ S1) := by rw [hS1]; exact HB1.out.size
  generalize w1.alloc (.cells #[] 45) = w2 at *
  clear hS1 hb0 HB1
  go_wp2_with fail
  go_loopg [14, 15, 16] bn (fun gk nv lv iv wr => ∃ (j t l c1 j2 c2 : Nat) (A1 A2 : Option Addr), j ≤ bn ∧ gk = bn - j ∧ nv = .int .i64 (t : Int) ∧ lv = .slice A1 l c1 ∧ iv = .int .i64 (j : Int) ∧ t + l = j ∧ Hid ((takeD f rm (B.take j)).1.length = t) ∧ Hid ((takeD f rm (B.take j)).2.length = l) ∧ Hid ((mergeD (takeD f rm (B.take j)).1 B2).length = j2) ∧ Hid (Q5 W g (.cells #[.int .i64 cB, .int .i64 cY, .int .i64 cF, .int .i64 cN, .int .i64 cU, .int .i64 cL, .int .i64 cKy, .int .i64 cV] 23) (.cells #[.int .i64 (lv2 + 1), .slice kA kn kc, .slice pA pn pc, .slice bA bn bc, .slice qA qn qc] 29) (.cells #[.int .i64 lv2, .slice kA2 kn2 kc2, .slice pA2 pn2 pc2, .slice A2 j2 c2, .slice qA2 qn2 qc2] 29) (.cells #[.int .i64 0, .slice none 0 0, .slice none 0 0, .slice none 0 0, .slice none 0 0] 29) (.cells #[.int .i64 0, .slice none 0 0, .slice none 0 0, .slice none 0 0, .slice none 0 0] 29) wr) ∧ Hid (VK MgK wr S1 A1 c1 (takeD f rm (B.take j)).2) ∧ Hid (RC MgK wr A2 c2 (mergeD (takeD f rm (B.take j)).1 B2)) ∧ Hid (Apt W.heap.size S1 j2 A1 A2) ∧ Hid (S1 ≤ wr.heap.size))
  case atStart => exact ⟨0, 0, 0, 0, bn2, bc2, some ⟨S1, 0, none⟩, bA2, Nat.zero_le _, rfl, rfl, rfl, rfl, rfl, rfl, rfl, HBN2.out, HX5, HV0, HQ0, HAP0, HZ0.out⟩
  case round =>
    obtain ⟨j, t, l, c1, j2, c2, A1, A2, hj, rfl, rfl, rfl, rfl, htl, HT, HL, HJ, HX, HV, HR, HAP2, HZ⟩ := hrel
    clear HV0 HX5 HQ0 HAP0
    obtain ⟨d0, d1, d2, d3, d4⟩ := box5 HX.out.b3.y
    obtain ⟨e0, e1, e2, e3, e4⟩ := box5 HX.out.b3.z
    by_cases hlt : j < bn
    · have hjL : j < B.length := by rw [HBN.out]; exact hlt
      obtain ⟨x, hxx⟩ : ∃ x, x = B[j] := ⟨_, rfl⟩
      have hx' := nat_len hjL
      rw [← hxx] at hx'
      have HS := Lib.hid (takeD_next (p := f) (most := rm) hx')
      obtain ⟨xb, xo, e, -, c0, cc1, cc2⟩ := RdK.msg (HAB.out.1.kept HX.out.b3.below) hx'
      subst e
      have HXX := Lib.hid hx'
      clear hxx hx' hjL
      have hw2 : IntKind.i64.wrap ((j : Int) + 1) = ((j + 1 : Nat) : Int) := by rw [IntKind.wrap_i64]; omega
      have hw3 : IntKind.i64.wrap ((t : Int) + 1) = ((t + 1 : Nat) : Int) := by rw [IntKind.wrap_i64]; omega
      go_upto_region 10 with fail
      clear d0 d1 d2 d3 d4 e0 e1 e2 e3 e4 c0 cc1 cc2
      have hba : Below wr.heap.size wr (wr.alloc (.cells #[.string x.1, .bool x.2.1, .string x.2.2] 45)) := (Below.refl _ _).alloc (Nat.le_refl _) _
      have hbx := heap_alloc_new wr (.cells #[.string x.1, .bool x.2.1, .string x.2.2] 45)
      have hsz := HZ.out
      have HZ3 : Hid (S1 ≤ (wr.alloc (.cells #[.string x.1, .bool x.2.1, .string x.2.2] 45)).heap.size) := Nat.le_trans hsz hba.size
      clear HZ
      generalize wr.alloc (.cells #[.string x.1, .bool x.2.1, .string x.2.2] 45) = w3 at *
      replace HX := Lib.hid (HX.out.kept hba)
      replace HV := Lib.hid (HV.out.kept hba)
      replace HR := Lib.hid (HR.out.kept hba)
      obtain ⟨bx, hbxe⟩ : ∃ bx, bx = wr.heap.size := ⟨_, rfl⟩
      rw [← hbxe] at hbx hsz
      simp only [← hbxe]
      have HBX := Lib.hid hbx
      have HSZ := Lib.hid hsz
      clear hba hbx hbxe hsz
      have cX := cW w3 HX.out.b3.below x.1
      have hfx := HFX.out x
      generalize wayS P x.1 = y at *
      obtain ⟨d0, d1, d2, d3, d4⟩ := box5 HX.out.b3.y
      obtain ⟨e0, e1, e2, e3, e4⟩ := box5 HX.out.b3.z
      obtain ⟨x0, x1, x2⟩ := box3 HBX.out
      by_cases hy : (y : Int) = i
      · by_cases htm0 : (t : Int) < most
        case neg =>
          have HT2 : Hid (takeD f rm (B.take (j + 1)) = ((takeD f rm (B.take j)).1, (takeD f rm (B.take j)).2 ++ [x])) := by
            unfold Hid
            rw [HS.out]
            unfold Bu.stepT
            rw [if_neg (by rw [hfx, HT.out]; have hrm := HRM.out; simp [hy]; omega)]
          have hyd : ((y : Int) != i) = false := by simp [hy]
          have htm2 : most ≤ (t : Int) := by omega
          clear HS hfx hy htm0
          go_upto_region 11 with (go_at_call 22; refine cX.out.mono ?_; rintro e w4 ⟨rfl, hb⟩; replace HX := Lib.hid (HX.out.kept hb); replace HV := Lib.hid (HV.out.kept hb); replace HR := Lib.hid (HR.out.kept hb); replace HBX := Lib.hid (kept3 HBX.out hb); have HZ4 := Lib.hid hb.size; clear hb cX d0 d1 d2 d3 d4 e0 e1 e2 e3 e4 x0 x1 x2; obtain ⟨d0, d1, d2, d3, d4⟩ := box5 HX.out.b3.y; obtain ⟨e0, e1, e2, e3, e4⟩ := box5 HX.out.b3.z; obtain ⟨x0, x1, x2⟩ := box3 HBX.out)
          clear d0 d1 d2 d3 d4 e0 e1 e2 e3 e4
          have hX : Below w4.heap.size w4 (w4.alloc (.cells #[.string x.1, .bool x.2.1, .string x.2.2] 45)) := (Below.refl _ _).alloc (Nat.le_refl _) _
          have hcl : Hid ((w4.alloc (.cells #[.string x.1, .bool x.2.1, .string x.2.2] 45)).heap[w4.heap.size]? = some (.cells (MgK.cs x).toArray MgK.T (0, 0))) := heap_alloc_new w4 _
          have HVX := Lib.hid (HV.out.kept hX)
          have HRX := Lib.hid (HR.out.kept hX)
          have HXX2 := Lib.hid (HX.out.kept hX)
          have hBx : S1 ≤ (w4.alloc (.cells #[.string x.1, .bool x.2.1, .string x.2.2] 45)).heap.size := Nat.le_trans (Nat.le_trans HZ3.out HZ4.out) hX.size
          have hm65 : l + 1 ≤ 1048576 := by omega
          clear hX
          go_wp2_with (with_reducible refine wpList_appendK (K := MgK) Try.underlying26 mginfo rfl (by decide) (by decide) rfl (.tmp 78) (.tmp 80) rfl S1 A1 l c1 (takeD f rm (B.take j)).2 rfl HL.out HVX.out w4.heap.size 1 x rfl hcl.out hm65 hBx ?_; intro A4 c4 w5 hd')
          have h9 := HG1.out
          go_roundg (bn - (j + 1))
          case measure => omega
          case rel => exact ⟨j + 1, t, l + 1, c4, j2, c2, A4, A2, hlt, rfl, rfl, by go_num, by go_num, by omega, by unfold Hid; rw [HT2.out]; exact HT.out, by unfold Hid; rw [HT2.out, List.length_append, HL.out]; rfl, by unfold Hid; rw [HT2.out]; exact HJ.out, HXX2.out.grow hd'.out.below h9, by
            rw [HT2.out]
            exact hd'.out.vo, by
            rw [HT2.out]
            exact rc_app HRX.out hd'.out (HJ.out ▸ HAP2.out), apt_app HAP2.out hd'.out HRX.out HJ.out, Nat.le_trans hBx hd'.out.below.size⟩
        by_cases htm : (t : Int) < rr
        · have HT2 : Hid (takeD f rm (B.take (j + 1)) = ((takeD f rm (B.take j)).1 ++ [x], (takeD f rm (B.take j)).2)) := by
            unfold Hid
            rw [HS.out]
            unfold Bu.stepT
            rw [if_pos (by rw [hfx, HT.out]; have hrm := HRM.out; simp [hy]; omega)]
          have hyd : ((y : Int) != i) = false := by simp [hy]
          clear HS hfx hy
          go_upto_region 12 with (go_at_call 22; refine cX.out.mono ?_; rintro e w4 ⟨rfl, hb⟩; replace HX := Lib.hid (HX.out.kept hb); replace HV := Lib.hid (HV.out.kept hb); replace HR := Lib.hid (HR.out.kept hb); replace HBX := Lib.hid (kept3 HBX.out hb); have HZ4 := Lib.hid hb.size; clear hb cX d0 d1 d2 d3 d4 e0 e1 e2 e3 e4 x0 x1 x2; obtain ⟨d0, d1, d2, d3, d4⟩ := box5 HX.out.b3.y; obtain ⟨e0, e1, e2, e3, e4⟩ := box5 HX.out.b3.z; obtain ⟨x0, x1, x2⟩ := box3 HBX.out)
          clear d0 d1 d2 d3 d4 e0 e1 e2 e3 e4 x0 x1 x2
          have cAp := Lib.hid (RPut_any (c := c2) HR.out.1 x (HPB.out x (List.mem_of_getElem? HXX.out)) (by
            have h1 := (Ri.merge (a := (takeD f rm (B.take j)).1) HKR.out).2
            rw [HT.out, HBN2.out] at h1
            omega))
          have HAE : Hid (putD (mergeD (takeD f rm (B.take j)).1 B2) x = mergeD (takeD f rm (B.take (j + 1))).1 B2) := by
            unfold Hid
            rw [HT2.out]
            simp only [mergeD, List.foldl_append, List.foldl_cons, List.foldl_nil]
          rw [HJ.out, HAE.out] at cAp
          unfold mgV at cAp
          have HVO := Lib.hid HV.out
          obtain ⟨d0, d1, d2, d3, d4⟩ := box5 HX.out.b3.z
          obtain ⟨x0, x1, x2⟩ := box3 HBX.out
          go_wp2_with (go_at_call 24; refine cAp.out.mono ?_; rintro e w6 ⟨⟨A4, c4, rfl, h4⟩, hb⟩; have HX6 := Lib.hid (HX.out.kept hb); have HV6 := Lib.hid (HV.out.kept hb); have HB6 := Lib.hid hb; have H4 := Lib.hid (VK.rc h4); have HF4 : Hid (∀ y : Addr, A4 = some y → w4.heap.size ≤ y.block) := fun y hy => (h4.at_ y hy).1; clear h4 hb cAp d0 d1 d2 d3 d4 x0 x1 x2; obtain ⟨e0, e1, e2, e3, e4⟩ := box5 HX6.out.b3.z; have f3 := free5 HX6.out.b3.z 3)
          have h9 := HG1.out
          have h10 : S1 ≤ w6.heap.size := Nat.le_trans (Nat.le_trans HZ3.out HZ4.out) HB6.out.size
          go_roundg (bn - (j + 1))
          case measure => omega
          case rel => exact ⟨j + 1, t + 1, l, c1, _, c4, A1, A4, hlt, rfl, by go_num, rfl, by go_num, by omega, by unfold Hid; rw [HT2.out, List.length_append, HT.out]; rfl, by unfold Hid; rw [HT2.out]; exact HL.out, rfl, HX6.out.z3 _, by
            rw [HT2.out]
            exact vk_setp HV6.out _ (by omega), rc_setp H4.out _ fun y h0 hy => by
              have := HF4.out y hy
              have := HZ4.out
              have := HZ3.out
              omega, apt_new HVO.out (fun y hy => HF4.out y hy) (Nat.le_trans HZ3.out HZ4.out) (Nat.le_refl _), by unfold Hid; simpa using h10⟩
        · have HT2 : Hid (takeD f rm (B.take (j + 1)) = ((takeD f rm (B.take j)).1, (takeD f rm (B.take j)).2 ++ [x])) := by
            unfold Hid
            rw [HS.out]
            unfold Bu.stepT
            rw [if_neg (by rw [hfx, HT.out]; have hrm := HRM.out; simp [hy]; omega)]
          have hyd : ((y : Int) != i) = false := by simp [hy]
          have htm2 : rr ≤ (t : Int) := by omega
          clear HS hfx hy htm
          go_upto_region 11 with (go_at_call 22; refine cX.out.mono ?_; rintro e w4 ⟨rfl, hb⟩; replace HX := Lib.hid (HX.out.kept hb); replace HV := Lib.hid (HV.out.kept hb); replace HR := Lib.hid (HR.out.kept hb); replace HBX := Lib.hid (kept3 HBX.out hb); have HZ4 := Lib.hid hb.size; clear hb cX d0 d1 d2 d3 d4 e0 e1 e2 e3 e4 x0 x1 x2; obtain ⟨d0, d1, d2, d3, d4⟩ := box5 HX.out.b3.y; obtain ⟨e0, e1, e2, e3, e4⟩ := box5 HX.out.b3.z; obtain ⟨x0, x1, x2⟩ := box3 HBX.out)
          clear d0 d1 d2 d3 d4 e0 e1 e2 e3 e4
          have hX : Below w4.heap.size w4 (w4.alloc (.cells #[.string x.1, .bool x.2.1, .string x.2.2] 45)) := (Below.refl _ _).alloc (Nat.le_refl _) _
          have hcl : Hid ((w4.alloc (.cells #[.string x.1, .bool x.2.1, .string x.2.2] 45)).heap[w4.heap.size]? = some (.cells (MgK.cs x).toArray MgK.T (0, 0))) := heap_alloc_new w4 _
          have HVX := Lib.hid (HV.out.kept hX)
          have HRX := Lib.hid (HR.out.kept hX)
          have HXX2 := Lib.hid (HX.out.kept hX)
          have hBx : S1 ≤ (w4.alloc (.cells #[.string x.1, .bool x.2.1, .string x.2.2] 45)).heap.size := Nat.le_trans (Nat.le_trans HZ3.out HZ4.out) hX.size
          have hm65 : l + 1 ≤ 1048576 := by omega
          clear hX
          go_wp2_with (with_reducible refine wpList_appendK (K := MgK) Try.underlying26 mginfo rfl (by decide) (by decide) rfl (.tmp 78) (.tmp 80) rfl S1 A1 l c1 (takeD f rm (B.take j)).2 rfl HL.out HVX.out w4.heap.size 1 x rfl hcl.out hm65 hBx ?_; intro A4 c4 w5 hd')
          have h9 := HG1.out
          go_roundg (bn - (j + 1))
          case measure => omega
          case rel => exact ⟨j + 1, t, l + 1, c4, j2, c2, A4, A2, hlt, rfl, rfl, by go_num, by go_num, by omega, by unfold Hid; rw [HT2.out]; exact HT.out, by unfold Hid; rw [HT2.out, List.length_append, HL.out]; rfl, by unfold Hid; rw [HT2.out]; exact HJ.out, HXX2.out.grow hd'.out.below h9, by
            rw [HT2.out]
            exact hd'.out.vo, by
            rw [HT2.out]
            exact rc_app HRX.out hd'.out (HJ.out ▸ HAP2.out), apt_app HAP2.out hd'.out HRX.out HJ.out, Nat.le_trans hBx hd'.out.below.size⟩
      · have HT2 : Hid (takeD f rm (B.take (j + 1)) = ((takeD f rm (B.take j)).1, (takeD f rm (B.take j)).2 ++ [x])) := by
          unfold Hid
          rw [HS.out]
          unfold Bu.stepT
          rw [if_neg (by rw [hfx]; simp [hy])]
        have hyd : ((y : Int) != i) = true := by simpa using hy
        clear HS hfx hy
        go_upto_region 11 with (go_at_call 22; refine cX.out.mono ?_; rintro e w4 ⟨rfl, hb⟩; replace HX := Lib.hid (HX.out.kept hb); replace HV := Lib.hid (HV.out.kept hb); replace HR := Lib.hid (HR.out.kept hb); replace HBX := Lib.hid (kept3 HBX.out hb); have HZ4 := Lib.hid hb.size; clear hb cX d0 d1 d2 d3 d4 e0 e1 e2 e3 e4 x0 x1 x2; obtain ⟨d0, d1, d2, d3, d4⟩ := box5 HX.out.b3.y; obtain ⟨e0, e1, e2, e3, e4⟩ := box5 HX.out.b3.z; obtain ⟨x0, x1, x2⟩ := box3 HBX.out)
        clear d0 d1 d2 d3 d4 e0 e1 e2 e3 e4
        have hX : Below w4.heap.size w4 (w4.alloc (.cells #[.string x.1, .bool x.2.1, .string x.2.2] 45)) := (Below.refl _ _).alloc (Nat.le_refl _) _
        have hcl : Hid ((w4.alloc (.cells #[.string x.1, .bool x.2.1, .string x.2.2] 45)).heap[w4.heap.size]? = some (.cells (MgK.cs x).toArray MgK.T (0, 0))) := heap_alloc_new w4 _
        have HVX := Lib.hid (HV.out.kept hX)
        have HRX := Lib.hid (HR.out.kept hX)
        have HXX2 := Lib.hid (HX.out.kept hX)
        have hBx : S1 ≤ (w4.alloc (.cells #[.string x.1, .bool x.2.1, .string x.2.2] 45)).heap.size := Nat.le_trans (Nat.le_trans HZ3.out HZ4.out) hX.size
        have hm65 : l + 1 ≤ 1048576 := by omega
        clear hX
        go_wp2_with (with_reducible refine wpList_appendK (K := MgK) Try.underlying26 mginfo rfl (by decide) (by decide) rfl (.tmp 78) (.tmp 80) rfl S1 A1 l c1 (takeD f rm (B.take j)).2 rfl HL.out HVX.out w4.heap.size 1 x rfl hcl.out hm65 hBx ?_; intro A4 c4 w5 hd')
        have h9 := HG1.out
        go_roundg (bn - (j + 1))
        case measure => omega
        case rel => exact ⟨j + 1, t, l + 1, c4, j2, c2, A4, A2, hlt, rfl, rfl, by go_num, by go_num, by omega, by unfold Hid; rw [HT2.out]; exact HT.out, by unfold Hid; rw [HT2.out, List.length_append, HL.out]; rfl, by unfold Hid; rw [HT2.out]; exact HJ.out, HXX2.out.grow hd'.out.below h9, by
          rw [HT2.out]
          exact hd'.out.vo, by
          rw [HT2.out]
          exact rc_app HRX.out hd'.out (HJ.out ▸ HAP2.out), apt_app HAP2.out hd'.out HRX.out HJ.out, Nat.le_trans hBx hd'.out.below.size⟩
    · obtain rfl : j = bn := by omega
      rw [List.take_of_length_le (by rw [HBN.out]; exact Nat.le_refl _)] at HT HL HJ HV HR
      clear hlt
      have f3 := free5 HX.out.b3.y 3
      go_upto_region 17 with fail
      clear d0 d1 d2 d3 d4 e0 e1 e2 e3 e4 f3
      have h9 := HG1.out
      have h10 := HX.out.b3.at_
      have HX5 := Lib.hid (HX.out.y3 (.slice A1 l c1))
      have HV5 := Lib.hid (vk_setp (i := 3) HV.out (.slice A1 l c1) (show g + 1 < S1 by omega))
      have HR5 := Lib.hid (rc_setp (i := 3) (b := g + 1) HR.out (.slice A1 l c1) fun y h0 hy => by
        have := (HAP2.out y (by rw [← HJ.out]; exact h0) hy).1
        omega)
      have HN : Hid (∀ y, 0 < j2 → A2 = some y → y.block ∉ [g + 1 + 1 + 1, g + 1 + 1 + 1 + 1]) := fun y h0 hy hm => by
        have := (HAP2.out y h0 hy).1
        have : y.block = g + 1 + 1 + 1 ∨ y.block = g + 1 + 1 + 1 + 1 := by simpa using hm
        omega
      have HN1 : Hid (∀ y : Addr, S1 ≤ y.block → y.block ∉ [g + 1 + 1 + 1, g + 1 + 1 + 1 + 1]) := fun y h0 hm => by
        have : y.block = g + 1 + 1 + 1 ∨ y.block = g + 1 + 1 + 1 + 1 := by simpa using hm
        omega
      generalize wr.setCell ⟨g + 1, 3, none⟩ (.slice A1 l c1) = w5 at *
      have HP : Hid (∀ w', Flow.Into [g + 1 + 1 + 1, g + 1 + 1 + 1 + 1] w5 w' → Below W.heap.size W w' → EvPour (⟨lv2 + 1, K, P, (takeD f rm B).2, Q⟩, ⟨lv2, K2, P2, mergeD (takeD f rm B).1 B2, Q2⟩, (takeD f rm B).1.length) (.tuple #[.agg #[.int .i64 (lv2 + 1), .slice kA kn kc, .slice pA pn pc, .slice A1 l c1, .slice qA qn qc], .agg #[.int .i64 lv2, .slice kA2 kn2 kc2, .slice pA2 pn2 pc2, .slice A2 j2 c2, .slice qA2 qn2 qc2], .int .i64 (t : Int)]) w') := fun w' hi hb => ⟨⟨kA, kc, pA, pc, A1, c1, qA, qc⟩, ⟨kA2, kc2, pA2, pc2, A2, c2, qA2, qc2⟩, by simp only [ndCs, HKN.out, HPN.out, HQN.out, HKN2.out, HPN2.out, HQN2.out, HT.out, HL.out, HJ.out], ⟨HAK.out.kept hb, HAP.out.kept hb, VK.rc (HV5.out.into hi fun a ha => HN1.out a (HV5.out.at_ a ha).1), HAQ.out.kept hb⟩, ⟨HBK.out.kept hb, HBP.out.kept hb, rc_into HR5.out hi fun y h0 hy => HN.out y (by rw [← HJ.out]; exact h0) hy, HBQ.out.kept hb⟩⟩
      clear HV HR HAP2 HX HV5 HR5 HN HN1 h9 h10
      obtain ⟨m0, m1, m2, m3, m4⟩ := box5 HX5.out.b3.y
      obtain ⟨n0, n1, n2, n3, n4⟩ := box5 HX5.out.b3.z
      have hgm : g + 1 ∉ [g + 1 + 1 + 1, g + 1 + 1 + 1 + 1] := by simp
      have hgn : g + 1 + 1 ∉ [g + 1 + 1 + 1, g + 1 + 1 + 1 + 1] := by simp
      have tm0 := fun q : Drift.Tide [g + 1 + 1 + 1, g + 1 + 1 + 1 + 1] w5 [] => Drift.Tide.cell m0 hgm q
      have tm1 := fun q : Drift.Tide [g + 1 + 1 + 1, g + 1 + 1 + 1 + 1] w5 [] => Drift.Tide.cell m1 hgm q
      have tm2 := fun q : Drift.Tide [g + 1 + 1 + 1, g + 1 + 1 + 1 + 1] w5 [] => Drift.Tide.cell m2 hgm q
      have tm3 := fun q : Drift.Tide [g + 1 + 1 + 1, g + 1 + 1 + 1 + 1] w5 [] => Drift.Tide.cell m3 hgm q
      have tm4 := fun q : Drift.Tide [g + 1 + 1 + 1, g + 1 + 1 + 1 + 1] w5 [] => Drift.Tide.cell m4 hgm q
      have tn0 := fun q : Drift.Tide [g + 1 + 1 + 1, g + 1 + 1 + 1 + 1] w5 [] => Drift.Tide.cell n0 hgn q
      have tn1 := fun q : Drift.Tide [g + 1 + 1 + 1, g + 1 + 1 + 1 + 1] w5 [] => Drift.Tide.cell n1 hgn q
      have tn2 := fun q : Drift.Tide [g + 1 + 1 + 1, g + 1 + 1 + 1 + 1] w5 [] => Drift.Tide.cell n2 hgn q
      have tn3 := fun q : Drift.Tide [g + 1 + 1 + 1, g + 1 + 1 + 1 + 1] w5 [] => Drift.Tide.cell n3 hgn q
      have tn4 := fun q : Drift.Tide [g + 1 + 1 + 1, g + 1 + 1 + 1 + 1] w5 [] => Drift.Tide.cell n4 hgn q
      have hS : ∀ k, k ∈ [g + 1 + 1 + 1, g + 1 + 1 + 1 + 1] → k < w5.heap.size := fun k hk => by
        have h9 := HX5.out.size
        have : k = g + 1 + 1 + 1 ∨ k = g + 1 + 1 + 1 + 1 := by simpa using hk
        omega
      clear m0 m1 m2 m3 m4 n0 n1 n2 n3 n4 hgm hgn
      refine Drift.wp_region_drift [g + 1 + 1 + 1, g + 1 + 1 + 1 + 1] [(0,[]),(1,[]),(2,[]),(3,[]),(4,[]),(5,[])] [3, 4] [] (by kernel_rfl) (by kernel_rfl) hS ?_
      clear hS
      simp only [Drift.pick, Drift.opsAt, List.getElem?_toArray, List.getElem?_cons_zero, List.getElem?_cons_succ, List.cons_append, List.nil_append, List.filterMap_nil]
      repeat (refine Drift.walk_step (fun K hK => ?_); go_simp; (refine hK _ ?_; clear hK K))
      refine Drift.walk_event rfl Drift.mkwalk_nil (EvFill w5 (g + 1 + 1 + 1) #[.int .i64 (lv2 + 1), .slice kA kn kc, .slice pA pn pc, .slice A1 l c1, .slice qA qn qc]) (fun W2 hk _ => ?_) (fun v w20 hv hI _ hTd1 => ?_)
      · have hy := (HX5.out.kept hk).m
        obtain ⟨s0, s1, s2, s3, s4⟩ := box5 hy
        have y0 := free5 hy 0; have y1 := free5 hy 1; have y2 := free5 hy 2; have y3 := free5 hy 3; have y4 := free5 hy 4
        have hs5 := set5_at hy (.int .i64 (lv2 + 1)) (.slice kA kn kc) (.slice pA pn pc) (.slice A1 l c1) (.slice qA qn qc)
        have hi5 := into_set5 W2 (g + 1 + 1 + 1) (.int .i64 (lv2 + 1)) (.slice kA kn kc) (.slice pA pn pc) (.slice A1 l c1) (.slice qA qn qc)
        unfold set5 at hs5 hi5
        have HS5 := Lib.hid hs5
        have HI4 := Lib.hid hi5
        have HI5 : Hid (Flow.Into [g + 1 + 1 + 1] w5 _) := (Flow.Into.of_below hk).trans hi5
        clear hs5 hi5 hy
        go_simp
        exact ⟨⟨rfl, HS5.out, HI5.out⟩, into_wide HI4.out (by simp)⟩
      obtain ⟨rfl, hv1, hi1⟩ := hv
      have HZ : Hid (w20.heap[g + 1 + 1 + 1 + 1]? = some (.cells #[.int .i64 0, .slice none 0 0, .slice none 0 0, .slice none 0 0, .slice none 0 0] 29)) := (hi1.block (g + 1 + 1 + 1 + 1) HX5.out.size (by simp)).trans HX5.out.n
      clear hI
      refine Drift.walk_event rfl Drift.mkwalk_nil (EvFill w20 (g + 1 + 1 + 1 + 1) #[.int .i64 lv2, .slice kA2 kn2 kc2, .slice pA2 pn2 pc2, .slice A2 j2 c2, .slice qA2 qn2 qc2]) (fun W2 hk _ => ?_) (fun v w21 hv hI _ hTd2 => ?_)
      · have hy := kept3 HZ.out hk
        obtain ⟨s0, s1, s2, s3, s4⟩ := box5 hy
        have y0 := free5 hy 0; have y1 := free5 hy 1; have y2 := free5 hy 2; have y3 := free5 hy 3; have y4 := free5 hy 4
        have hs5 := set5_at hy (.int .i64 lv2) (.slice kA2 kn2 kc2) (.slice pA2 pn2 pc2) (.slice A2 j2 c2) (.slice qA2 qn2 qc2)
        have hi5 := into_set5 W2 (g + 1 + 1 + 1 + 1) (.int .i64 lv2) (.slice kA2 kn2 kc2) (.slice pA2 pn2 pc2) (.slice A2 j2 c2) (.slice qA2 qn2 qc2)
        unfold set5 at hs5 hi5
        have HS5 := Lib.hid hs5
        have HI4 := Lib.hid hi5
        have HI5 : Hid (Flow.Into [g + 1 + 1 + 1 + 1] w20 _) := (Flow.Into.of_below hk).trans hi5
        clear hs5 hi5 hy
        go_simp
        exact ⟨⟨rfl, HS5.out, HI5.out⟩, into_wide HI4.out (by simp)⟩
      obtain ⟨rfl, hv2, hi2⟩ := hv
      clear hI HZ
      repeat (refine Drift.walk_step (fun K hK => ?_); go_simp; (refine hK _ ?_; clear hK K))
      refine Drift.walk_nil ?_
      intro w22 hb22 _
      have HI : Hid (Flow.Into [g + 1 + 1 + 1, g + 1 + 1 + 1 + 1] w5 w22) := ((into_wide hi1 (by simp)).trans (into_wide hi2 (by simp))).trans (Flow.Into.of_below hb22)
      have hy1 := (hi2.block (g + 1 + 1 + 1) (Array.getElem?_eq_some_iff.1 hv1).1 (by simp)).trans hv1
      obtain ⟨s0, s1, s2, s3, s4⟩ := box5 (kept3 hy1 hb22)
      obtain ⟨u0, u1, u2, u3, u4⟩ := box5 (kept3 hv2 hb22)
      have HBW : Hid (Below W.heap.size W w22) := below_fill HX5.out.b3.below HI.out (fun k hk => by
        have h9 := HX5.out.b3.at_
        have : k = g + 1 + 1 + 1 ∨ k = g + 1 + 1 + 1 + 1 := by simpa using hk
        omega) HX5.out.b3.below.size
      clear hTd1 hTd2 hv1 hv2 hi1 hi2 hy1 hb22 tm0 tm1 tm2 tm3 tm4 tn0 tn1 tn2 tn3 tn4
      simp only [List.length_cons, List.length_nil, List.drop_succ_cons, List.drop_nil, Nat.zero_add, Nat.reduceAdd]
      go_wp2_with fail
      exact bodyPost_ret (v := .tuple #[.agg #[.int .i64 (lv2 + 1), .slice kA kn kc, .slice pA pn pc, .slice A1 l c1, .slice qA qn qc], .agg #[.int .i64 lv2, .slice kA2 kn2 kc2, .slice pA2 pn2 pc2, .slice A2 j2 c2, .slice qA2 qn2 qc2], .int .i64 (t : Int)]) (by simp [results, Try.results8, go_sem, s0, s1, s2, s3, s4, u0, u1, u2, u3, u4]) rfl ⟨⟨_, rfl, HP.out _ HI.out HBW.out⟩, HBW.out⟩
end No
end Go.Proofs.Ytlabbmfiecbigaa
