/-
  CodeR4. Put together by pack.py.
-/
import Derived.Test.YtgpbioljldkmaaaGreatPkAR

namespace Go.Proofs.YtgpbioljldkmaaaGreat
open Go.RowKit
namespace No
open Mem Lx Bu Lf Fa
open Wd (be val be_length val_be isW)
theorem runF_le {α : Type} {A : List UInt8} {f : α → List UInt8} {L : List α} {k : Nat} : (runF A f L k).length ≤ (A ++ L.flatMap f).length := by
  have e : L.flatMap f = (L.take k).flatMap f ++ (L.drop k).flatMap f := by rw [← List.flatMap_append, List.take_append_drop]
  unfold runF
  rw [e]
  simp only [List.length_append]
  omega
/-- a round's text behind what was -/
theorem cat_run {α : Type} {A : List UInt8} {f : α → List UInt8} {L : List α} {k : Nat} {x : α} (X Y : List UInt8) (hx : L[k]? = some x) (hf : f x = X ++ Y) (hb : (A ++ L.flatMap f).length ≤ 100000) (w : World) :
    (Op.stringOp .add (strOf (runF A f L k)) (strOf X)).run Tryz.prog w = .ok (.string (strOf (runF A f L k ++ X))) w ∧ (Op.stringOp .add (strOf (runF A f L k ++ X)) (strOf Y)).run Tryz.prog w = .ok (.string (strOf (runF A f L (k + 1)))) w := by
  have h1 : runF A f L (k + 1) = runF A f L k ++ X ++ Y := by rw [← runF_succ hx, hf, List.append_assoc]
  have h2 : (runF A f L (k + 1)).length ≤ (A ++ L.flatMap f).length := runF_le
  rw [h1] at h2 ⊢
  have h3 : (runF A f L k ++ X ++ Y).length = (runF A f L k).length + X.length + Y.length := by simp only [List.length_append]
  exact ⟨cat_any _ _ (by omega) w, cat_any _ _ (by rw [List.length_append]; omega) w⟩
set_option maxRecDepth 100000 in
set_option maxHeartbeats 32000000 in
theorem RBlock_inner (c : Cfg) {n : Nd} {a : At} {W : World} (h : NdIn W n a) (hr : RightA c n) (h0 : n.lv ≠ 0) : Calls Tryz.prog 19 #[.agg (cfCs c), .agg (ndCs n a)] W fun e w' => e = .returned (.string (strOf (blockL c n))) ∧ Below W.heap.size W w' := by
  obtain ⟨FF, BB, LL, KK, VV, hs⟩ := set_ok hr.1
  obtain ⟨hp0, ho⟩ := hr.2.2 h0
  obtain ⟨hl1, hl2, hl3, hl4, hl5⟩ := inner_len hs ho
  have hk := hs.key
  have hv := hs.val
  have hk2 := hs.k
  have hv2 := hs.v
  have hf := hs.fan
  have hf2 := hs.f
  have hB := hs.b
  have hb1 := hs.bytes
  have hin := hs.inn
  have hlv := ho.lv
  have hkn := ho.fan
  have hpn := ho.fewer
  obtain ⟨l, hl⟩ : ∃ l : Nat, n.lv = l := ⟨n.lv.toNat, by omega⟩
  obtain ⟨A0, hA0⟩ : ∃ A : List UInt8, A = [2] ++ be 1 l ++ be 2 n.kids.length ++ be 2 n.buf.length ++ zs 2 := ⟨_, rfl⟩
  obtain ⟨A1, hA1⟩ : ∃ A : List UInt8, A = A0 ++ n.kids.flatMap (be 4) := ⟨_, rfl⟩
  obtain ⟨A2, hA2⟩ : ∃ A : List UInt8, A = A1 ++ zs (4 * (c.fan - n.kids.length)) := ⟨_, rfl⟩
  obtain ⟨A3, hA3⟩ : ∃ A : List UInt8, A = A2 ++ n.piv.flatMap (pvL c) := ⟨_, rfl⟩
  obtain ⟨A4, hA4⟩ : ∃ A : List UInt8, A = A3 ++ zs ((1 + c.key) * (c.fan - 1 - n.piv.length)) := ⟨_, rfl⟩
  obtain ⟨A5, hA5⟩ : ∃ A : List UInt8, A = A4 ++ n.buf.flatMap (msL c) := ⟨_, rfl⟩
  have e5 : A5 = innL c n := by
    unfold innL
    rw [hA5, hA4, hA3, hA2, hA1, hA0, hl]
    simp only [List.append_assoc, Int.toNat_natCast]
  have eb : blockL c n = slotL A5 c.bytes := by
    unfold blockL bodyL
    rw [if_neg h0, e5]
  have hbl : (A5.length : Int) ≤ c.bytes := by
    rw [e5, hl4]
    have hm := mul_up (s := 4 + KK + VV) hl5
    generalize n.buf.length * (4 + KK + VV) = X at *
    generalize BB * (4 + KK + VV) = Y at *
    generalize (1 + KK) * (FF - 1) = U at *
    omega
  have b5 : A5.length ≤ 65536 := by omega
  have b4 : A4.length ≤ 65536 := by rw [hA5, List.length_append] at b5; omega
  have b3 : A3.length ≤ 65536 := by rw [hA4, List.length_append] at b4; omega
  have b2 : A2.length ≤ 65536 := by rw [hA3, List.length_append] at b3; omega
  have b1 : A1.length ≤ 65536 := by rw [hA2, List.length_append] at b2; omega
  have c1 := fun W => Lib.hid (RNum_any 1 1 l rfl rfl (by omega) W)
  have c2 := fun W => Lib.hid (RNum_any 2 2 n.kids.length rfl rfl (by omega) W)
  have c3 := fun W => Lib.hid (RNum_any 2 2 n.buf.length rfl rfl (by omega) W)
  have c4 := fun W => Lib.hid (RZeros_any 2 (by decide) (by decide) W)
  have hkid : ∀ k ∈ n.kids, k < 65536 := fun k hk => by
    obtain ⟨i, hi⟩ := List.mem_iff_getElem?.1 hk
    have := (ho.kids i k hi).1.2
    have := hs.blocks
    omega
  have c5 : ∀ x, x ∈ n.kids → ∀ W, Hid (Calls Tryz.prog 48 #[.int .i64 4, .int .u64 (x : Int)] W fun e w' => Wd.New W w' (be 4 x) e) := fun x hx W => by
    have h9 := hkid x hx
    exact Wd.RBytes_any 4 x W (by omega)
  obtain ⟨z1, hz1⟩ : ∃ z, z = 4 * (c.fan - (n.kids.length : Int)) := ⟨_, rfl⟩
  have c6 := fun W => Lib.hid (RZeros_any z1 (by omega) (by omega) W)
  have c7 : ∀ p, p ∈ n.piv → ∀ W, Hid (Calls Tryz.prog 44 #[.int .i64 1, .int .i64 (p.size : Int)] W fun e w' => e = .returned (.string (strOf (be 1 p.size))) ∧ Below W.heap.size W w') := fun p hp W => by
    have := keyB_le (ho.piv p hp)
    exact RNum_any 1 1 p.size rfl rfl (by omega) W
  have c8 : ∀ p, p ∈ n.piv → ∀ W, Hid (Calls Tryz.prog 47 #[.string p, .int .i64 c.key] W fun e w' => e = .returned (.string (strOf (slotL (txt p) c.key))) ∧ Below W.heap.size W w') := fun p hp W => RSlot_any (txt p) c.key (keyB_le (ho.piv p hp)).2 (by omega) W
  obtain ⟨f1, hf1⟩ : ∃ z, z = c.fan - 1 := ⟨_, rfl⟩
  obtain ⟨f2, hf3⟩ : ∃ z, z = f1 - (n.piv.length : Int) := ⟨_, rfl⟩
  obtain ⟨k1, hk1⟩ : ∃ z, z = 1 + c.key := ⟨_, rfl⟩
  obtain ⟨z2, hz2⟩ : ∃ z, z = k1 * f2 := ⟨_, rfl⟩
  have hz2b : 0 ≤ z2 ∧ z2 ≤ 65 * 64 := by
    rw [hz2]
    exact Cf.mul_in (by omega) (by omega) (by omega) (by omega)
  have c9 := fun W => Lib.hid (RZeros_any z2 (by omega) (by omega) W)
  have c10 : ∀ m, m ∈ n.buf → ∀ W, Hid (Calls Tryz.prog 46 #[.agg (cfCs c), .string m.1, .string m.2.2] W fun e w' => e = .returned (.string (strOf (pairL c m.1 m.2.2))) ∧ Below W.heap.size W w') := fun m hm W => by
    obtain ⟨h1, -, h3, -⟩ := ho.buf m hm
    exact RPair_any c m.1 m.2.2 (keyB_le h1).2 h3 (by omega) (by omega) W
  have c11 := fun W => Lib.hid (RSlot_any A5 c.bytes hbl (by omega) W)
  have e1 : ∀ w, (Op.stringOp .add ⟨#[2]⟩ (strOf (be 1 l))).run Tryz.prog w = .ok (.string (strOf ([2] ++ be 1 l))) w := cat_any [2] (be 1 l) (by rw [be_length]; decide)
  have e2 := cat_any ([2] ++ be 1 l) (be 2 n.kids.length) (by rw [List.length_append, be_length, be_length]; decide)
  have e3 := cat_any ([2] ++ be 1 l ++ be 2 n.kids.length) (be 2 n.buf.length) (by rw [List.length_append, List.length_append, be_length, be_length, be_length]; decide)
  have e4 := cat_any ([2] ++ be 1 l ++ be 2 n.kids.length ++ be 2 n.buf.length) (zs 2) (by rw [List.length_append, List.length_append, List.length_append, be_length, be_length, be_length, zs_len]; decide)
  rw [← hA0] at e4
  have HC1 : Hid (∀ (k : Nat) (x : Nat), n.kids[k]? = some x → ∀ w, (Op.stringOp .add (strOf (runF A0 (be 4) n.kids k)) (strOf (be 4 x))).run Tryz.prog w = .ok (.string (strOf (runF A0 (be 4) n.kids (k + 1)))) w) := fun k x hx w => by
    have := (cat_run (A := A0) (f := be 4) (be 4 x) [] hx (by simp) (by rw [← hA1]; omega) w).1
    rw [runF_succ hx] at this
    exact this
  have HC2 : Hid (∀ (k : Nat) (p : ByteArray), n.piv[k]? = some p → ∃ t1, (∀ w, (Op.stringOp .add (strOf (runF A2 (pvL c) n.piv k)) (strOf (be 1 p.size))).run Tryz.prog w = .ok (.string t1) w) ∧ ∀ w, (Op.stringOp .add t1 (strOf (slotL (txt p) c.key))).run Tryz.prog w = .ok (.string (strOf (runF A2 (pvL c) n.piv (k + 1)))) w) := fun k p hx => ⟨_, fun w => (cat_run (A := A2) (f := pvL c) (be 1 p.size) (slotL (txt p) c.key) hx rfl (by rw [← hA3]; omega) w).1, fun w => (cat_run (A := A2) (f := pvL c) (be 1 p.size) (slotL (txt p) c.key) hx rfl (by rw [← hA3]; omega) w).2⟩
  have HC3 : Hid (∀ (k : Nat) (m : Mg), n.buf[k]? = some m → ∃ t1, (∀ w, (Op.stringOp .add (strOf (runF A4 (msL c) n.buf k)) ⟨#[kindB m.2.1]⟩).run Tryz.prog w = .ok (.string t1) w) ∧ ∀ w, (Op.stringOp .add t1 (strOf (pairL c m.1 m.2.2))).run Tryz.prog w = .ok (.string (strOf (runF A4 (msL c) n.buf (k + 1)))) w) := fun k m hx => ⟨_, fun w => (cat_run (A := A4) (f := msL c) [kindB m.2.1] (pairL c m.1 m.2.2) hx rfl (by rw [← hA5]; omega) w).1, fun w => (cat_run (A := A4) (f := msL c) [kindB m.2.1] (pairL c m.1 m.2.2) hx rfl (by rw [← hA5]; omega) w).2⟩
  have e6 := cat_any A1 (zs z1) (by rw [zs_len]; omega)
  have e7 := cat_any A3 (zs z2) (by rw [zs_len]; omega)
  rw [hz1, ← hA2, ← hz1] at e6
  have hz2e : zs z2 = zs ((1 + c.key) * (c.fan - 1 - n.piv.length)) := by rw [hz2, hk1, hf3, hf1]
  rw [hz2e, ← hA4, ← hz2e] at e7
  obtain ⟨z0, hz0⟩ : ∃ z, z = c.fan - (n.kids.length : Int) := ⟨_, rfl⟩
  have HW1 : Hid (IntKind.i64.wrap (c.fan - (n.kids.length : Int)) = z0) := by unfold Hid; rw [IntKind.wrap_i64]; omega
  have HW2 : Hid (IntKind.i64.wrap (4 * z0) = z1) := by unfold Hid; rw [IntKind.wrap_i64]; omega
  have HW3 : Hid (IntKind.i64.wrap (1 + c.key) = k1) := by unfold Hid; rw [IntKind.wrap_i64]; omega
  have HW4 : Hid (IntKind.i64.wrap (c.fan - 1) = f1) := by unfold Hid; rw [IntKind.wrap_i64]; omega
  have HW5 : Hid (IntKind.i64.wrap (f1 - (n.piv.length : Int)) = f2) := by unfold Hid; rw [IntKind.wrap_i64]; omega
  have HW6 : Hid (IntKind.i64.wrap (k1 * f2) = z2) := by unfold Hid; rw [← hz2, IntKind.wrap_i64]; omega
  have HZ1 : Hid (runF A0 (be 4) n.kids 0 = A0) := runF_zero
  have HZ2 : Hid (runF A2 (pvL c) n.piv 0 = A2) := runF_zero
  have HZ3 : Hid (runF A4 (msL c) n.buf 0 = A4) := runF_zero
  have HA1 : Hid (∀ k, k = n.kids.length → runF A0 (be 4) n.kids k = A1) := fun k hk => by rw [runF_all hk, hA1]
  have HA3 : Hid (∀ k, k = n.piv.length → runF A2 (pvL c) n.piv k = A3) := fun k hk => by rw [runF_all hk, hA3]
  have HA5 : Hid (∀ k, k = n.buf.length → runF A4 (msL c) n.buf k = A5) := fun k hk => by rw [runF_all hk, hA5]
  have HN := Lib.hid h
  have HKD := Lib.hid hkid
  rw [eb]
  have hq1 : n.kids.length ≤ 1024 := by omega
  have hq2 : n.piv.length ≤ 1024 := by omega
  have hq3 : n.buf.length ≤ 1024 := by omega
  have hl0 : (l : Int) ≠ 0 := by omega
  clear hz0 hz2e eb hbl b1 b2 b3 b4 b5 e5 hA0 hA1 hA2 hA3 hA4 hA5 hz1 hz2 hz2b hf1 hf3 hk1 hkid hpn hkn hlv hin hb1 hB hf2 hf hv2 hk2 hv hk hl1 hl2 hl3 hl4 hl5 ho hp0 hs hr h h0
  obtain ⟨R, hR⟩ : ∃ R, R = strOf (slotL A5 c.bytes) := ⟨_, rfl⟩
  rw [← hR] at c11 ⊢
  obtain ⟨pf, hpf⟩ : ∃ f, f = pvL c := ⟨_, rfl⟩
  obtain ⟨mf, hmf⟩ : ∃ f, f = msL c := ⟨_, rfl⟩
  rw [← hpf] at HC2 HZ2 HA3
  rw [← hmf] at HC3 HZ3 HA5
  clear hR hpf hmf
  obtain ⟨cB, cY, cF, cN, cU, cL, cKy, cV⟩ := c
  obtain ⟨lv, K, P, B, Q⟩ := n
  obtain ⟨kA, kc, pA, pc, bA, bc, qA, qc⟩ := a
  unfold cfCs ndCs at *
  simp only at *
  subst hl
  generalize hkn : K.length = kn at *
  generalize hpn : P.length = pn at *
  generalize hbn : B.length = bn at *
  have HKN := Lib.hid hkn
  have HPN := Lib.hid hpn
  have HBN := Lib.hid hbn
  clear hkn hpn hbn
  generalize Q.length = qn at *
  generalize strOf ([2] ++ be 1 l ++ be 2 kn ++ be 2 bn) = r3 at *
  generalize strOf ([2] ++ be 1 l ++ be 2 kn) = r2 at *
  generalize strOf ([2] ++ be 1 l) = r1 at *
  generalize strOf (be 1 l) = n1 at *
  generalize strOf (be 2 kn) = n2 at *
  generalize strOf (be 2 bn) = n3 at *
  generalize strOf (zs 2) = n4 at *
  generalize strOf (zs z1) = s1 at *
  generalize strOf (zs z2) = s2 at *
  go_enter Tryz.func19, Tryz.ntmps19
  go_upto_region 1 with fail
  have HB := Lib.hid (Bx2.new W (.cells #[.int .i64 cB, .int .i64 cY, .int .i64 cF, .int .i64 cN, .int .i64 cU, .int .i64 cL, .int .i64 cKy, .int .i64 cV] 23) (.cells #[.int .i64 (l : Int), .slice kA kn kc, .slice pA pn pc, .slice bA bn bc, .slice qA qn qc] 29))
  generalize (W.alloc (.cells #[.int .i64 cB, .int .i64 cY, .int .i64 cF, .int .i64 cN, .int .i64 cU, .int .i64 cL, .int .i64 cKy, .int .i64 cV] 23)).alloc (.cells #[.int .i64 (l : Int), .slice kA kn kc, .slice pA pn pc, .slice bA bn bc, .slice qA qn qc] 29) = w1 at *
  obtain ⟨g, hg⟩ : ∃ g, g = W.heap.size := ⟨_, rfl⟩
  rw [← hg] at HB
  simp only [← hg]
  clear hg
  obtain ⟨g0, g1, g2, g3, g4, g5, g6, g7⟩ := box8 HB.out.x
  obtain ⟨d0, d1, d2, d3, d4⟩ := box5 HB.out.y
  go_upto_region 9 with fail
  have tg0 := fun q : Drift.Tide [] w1 [] => Drift.Tide.cell g0 (by simp) q
  have tg1 := fun q : Drift.Tide [] w1 [] => Drift.Tide.cell g1 (by simp) q
  have tg2 := fun q : Drift.Tide [] w1 [] => Drift.Tide.cell g2 (by simp) q
  have tg3 := fun q : Drift.Tide [] w1 [] => Drift.Tide.cell g3 (by simp) q
  have tg4 := fun q : Drift.Tide [] w1 [] => Drift.Tide.cell g4 (by simp) q
  have tg5 := fun q : Drift.Tide [] w1 [] => Drift.Tide.cell g5 (by simp) q
  have tg6 := fun q : Drift.Tide [] w1 [] => Drift.Tide.cell g6 (by simp) q
  have tg7 := fun q : Drift.Tide [] w1 [] => Drift.Tide.cell g7 (by simp) q
  have td0 := fun q : Drift.Tide [] w1 [] => Drift.Tide.cell d0 (by simp) q
  have td1 := fun q : Drift.Tide [] w1 [] => Drift.Tide.cell d1 (by simp) q
  have td2 := fun q : Drift.Tide [] w1 [] => Drift.Tide.cell d2 (by simp) q
  have td3 := fun q : Drift.Tide [] w1 [] => Drift.Tide.cell d3 (by simp) q
  have td4 := fun q : Drift.Tide [] w1 [] => Drift.Tide.cell d4 (by simp) q
  clear g0 g1 g2 g3 g4 g5 g6 g7 d0 d1 d2 d3 d4
  refine Drift.wp_region_drift [] [(0,[]),(1,[]),(2,[]),(3,[]),(4,[]),(5,[]),(6,[]),(7,[]),(8,[]),(9,[]),(10,[]),(11,[]),(12,[]),(13,[]),(14,[]),(15,[]),(16,[])] [] [] (by kernel_rfl) (by kernel_rfl) (by simp) ?_
  simp only [Drift.pick, Drift.opsAt, List.getElem?_toArray, List.getElem?_cons_zero, List.getElem?_cons_succ, List.cons_append, List.nil_append, List.filterMap_nil]
  iterate 2 (refine Drift.walk_step (fun K hK => ?_); go_simp; (refine hK _ ?_; clear hK K))
  refine Drift.walk_step (fun K hK => ?_); go_simp; (apply Exists.intro; refine ⟨fun q => ?_, hK _ ?_⟩; (go_at_call 44; exact (c1 _).out); clear hK K)
  iterate 4 (refine Drift.walk_step (fun K hK => ?_); go_simp; (refine hK _ ?_; clear hK K))
  refine Drift.walk_step (fun K hK => ?_); go_simp; (apply Exists.intro; refine ⟨fun q => ?_, hK _ ?_⟩; (go_at_call 44; exact (c2 _).out); clear hK K)
  iterate 4 (refine Drift.walk_step (fun K hK => ?_); go_simp; (refine hK _ ?_; clear hK K))
  refine Drift.walk_step (fun K hK => ?_); go_simp; (apply Exists.intro; refine ⟨fun q => ?_, hK _ ?_⟩; (go_at_call 44; exact (c3 _).out); clear hK K)
  iterate 1 (refine Drift.walk_step (fun K hK => ?_); go_simp; (refine hK _ ?_; clear hK K))
  refine Drift.walk_step (fun K hK => ?_); go_simp; (apply Exists.intro; refine ⟨fun q => ?_, hK _ ?_⟩; (go_at_call 45; exact (c4 _).out); clear hK K)
  iterate 2 (refine Drift.walk_step (fun K hK => ?_); go_simp; (refine hK _ ?_; clear hK K))
  refine Drift.walk_nil ?_
  intro w2 hb _
  replace HB := Lib.hid (HB.out.kept hb)
  clear hb tg0 tg1 tg2 tg3 tg4 tg5 tg6 tg7 td0 td1 td2 td3 td4 c1 c2 c3 c4 e1 e2 e3 e4 hl0
  simp only [List.length_cons, List.length_nil, List.drop_succ_cons, List.drop_nil, Nat.zero_add, Nat.reduceAdd]
  go_wp2_with fail
  go_loopg [5, 7] kn (fun gk sv iv wr => ∃ (k : Nat) (t : ByteArray), k ≤ kn ∧ gk = kn - k ∧ iv = .int .i64 (k : Int) ∧ sv = .string t ∧ Hid (t = strOf (runF A0 (be 4) K k)) ∧ Hid (Bx2 W g (.cells #[.int .i64 cB, .int .i64 cY, .int .i64 cF, .int .i64 cN, .int .i64 cU, .int .i64 cL, .int .i64 cKy, .int .i64 cV] 23) (.cells #[.int .i64 (l : Int), .slice kA kn kc, .slice pA pn pc, .slice bA bn bc, .slice qA qn qc] 29) wr))
  case atStart => exact ⟨0, _, Nat.zero_le _, rfl, rfl, rfl, by rw [HZ1.out]; rfl, HB⟩
  case round =>
    clear HB HZ1
    obtain ⟨k, t, hk, rfl, rfl, rfl, HT, HB⟩ := hrel
    obtain ⟨g0, g1, g2, g3, g4, g5, g6, g7⟩ := box8 HB.out.x
    obtain ⟨d0, d1, d2, d3, d4⟩ := box5 HB.out.y
    by_cases hlt : k < kn
    · obtain ⟨x, hx⟩ : ∃ x, K[k]? = some x := ⟨K[k]'(by rw [HKN.out]; exact hlt), List.getElem?_eq_getElem _⟩
      obtain ⟨b, o, e, -, x0⟩ := RdK.kid (HN.out.kids.1.kept HB.out.below) hx
      subst e
      have hc1 := HC1.out k x hx
      rw [← HT.out] at hc1
      obtain ⟨t2, ht2⟩ : ∃ t2, t2 = strOf (runF A0 (be 4) K (k + 1)) := ⟨_, rfl⟩
      rw [← ht2] at hc1
      have HT2 := Lib.hid ht2
      clear ht2
      have c12 := fun W => c5 x (List.mem_of_getElem? hx) W
      have hx9 := HKD.out x (List.mem_of_getElem? hx)
      have hu : IntKind.u64.wrap (x : Int) = (x : Int) := by rw [IntKind.wrap_u64]; omega
      have HBL : Hid ((be 4 x).length = 4) := be_length 4 x
      generalize be 4 x = bx at *
      clear hx hx9 c5 HC1 HA1
      go_upto_region 12 with (go_at_call 48; refine (c12 _).out.mono ?_; rintro e w4 ⟨Ab, cb, rfl, hbl, hb⟩; rw [HBL.out]; have rt := run_text_n (P := Tryz.prog) Tryz.underlying33 Tryz.underlying5 Tryz.underlying9 hbl HBL.out cb; replace HB := Lib.hid (HB.out.kept hb); clear hb hbl g0 g1 g2 g3 g4 g5 g6 g7 d0 d1 d2 d3 d4 x0)
      clear c12 hc1 hu
      have hw : IntKind.i64.wrap ((k : Int) + 1) = ((k + 1 : Nat) : Int) := by rw [IntKind.wrap_i64]; omega
      go_wp2_with fail
      go_roundg (kn - (k + 1))
      case measure => omega
      case rel => exact ⟨k + 1, t2, hlt, rfl, by go_num, rfl, HT2, HB⟩
    · obtain rfl : kn = k := by omega
      have HE : Hid (t = strOf A1) := by unfold Hid; rw [HT.out, HA1.out _ rfl]
      obtain rfl := HE.out
      have hw1 := HW1.out
      have hw2 := HW2.out
      clear hlt HC1 HA1 c5 HT HE
      go_upto_region 15 with (go_at_call 45; refine (c6 _).out.mono ?_; rintro e w6 ⟨rfl, hb⟩; replace HB := Lib.hid (HB.out.kept hb); clear hb c6 g0 g1 g2 g3 g4 g5 g6 g7 d0 d1 d2 d3 d4)
      clear hw1 hw2 HW1 HW2 e6
      go_wp2_with fail
      go_loopg [5, 8] pn (fun gk sv iv wr => ∃ (k : Nat) (t : ByteArray), k ≤ pn ∧ gk = pn - k ∧ iv = .int .i64 (k : Int) ∧ sv = .string t ∧ Hid (t = strOf (runF A2 pf P k)) ∧ Hid (Bx2 W g (.cells #[.int .i64 cB, .int .i64 cY, .int .i64 cF, .int .i64 cN, .int .i64 cU, .int .i64 cL, .int .i64 cKy, .int .i64 cV] 23) (.cells #[.int .i64 (l : Int), .slice kA kn kc, .slice pA pn pc, .slice bA bn bc, .slice qA qn qc] 29) wr))
      case atStart => exact ⟨0, _, Nat.zero_le _, rfl, rfl, rfl, by rw [HZ2.out]; rfl, HB⟩
      case round =>
        clear HB HZ2
        obtain ⟨k, t, hk, rfl, rfl, rfl, HT, HB⟩ := hrel
        obtain ⟨g0, g1, g2, g3, g4, g5, g6, g7⟩ := box8 HB.out.x
        obtain ⟨d0, d1, d2, d3, d4⟩ := box5 HB.out.y
        by_cases hlt : k < pn
        · obtain ⟨x, hx⟩ : ∃ x, P[k]? = some x := ⟨P[k]'(by rw [HPN.out]; exact hlt), List.getElem?_eq_getElem _⟩
          obtain ⟨b, o, e, -, x0⟩ := RdK.str (HN.out.piv.1.kept HB.out.below) hx
          subst e
          obtain ⟨t1, hc1, hc2⟩ := HC2.out k x hx
          rw [← HT.out] at hc1
          obtain ⟨t2, ht2⟩ : ∃ t2, t2 = strOf (runF A2 pf P (k + 1)) := ⟨_, rfl⟩
          rw [← ht2] at hc2
          have HT2 := Lib.hid ht2
          clear ht2
          have c12 := fun W => c7 x (List.mem_of_getElem? hx) W
          have c13 := fun W => c8 x (List.mem_of_getElem? hx) W
          generalize strOf (be 1 x.size) = px at *
          generalize strOf (slotL (txt x) cKy) = sx at *
          clear hx c7 c8 HC2 HA3
          go_upto_region 18 with fail
          have tg0 := fun q : Drift.Tide [] wr [] => Drift.Tide.cell g0 (by simp) q
          have tg1 := fun q : Drift.Tide [] wr [] => Drift.Tide.cell g1 (by simp) q
          have tg2 := fun q : Drift.Tide [] wr [] => Drift.Tide.cell g2 (by simp) q
          have tg3 := fun q : Drift.Tide [] wr [] => Drift.Tide.cell g3 (by simp) q
          have tg4 := fun q : Drift.Tide [] wr [] => Drift.Tide.cell g4 (by simp) q
          have tg5 := fun q : Drift.Tide [] wr [] => Drift.Tide.cell g5 (by simp) q
          have tg6 := fun q : Drift.Tide [] wr [] => Drift.Tide.cell g6 (by simp) q
          have tg7 := fun q : Drift.Tide [] wr [] => Drift.Tide.cell g7 (by simp) q
          have td0 := fun q : Drift.Tide [] wr [] => Drift.Tide.cell d0 (by simp) q
          have td1 := fun q : Drift.Tide [] wr [] => Drift.Tide.cell d1 (by simp) q
          have td2 := fun q : Drift.Tide [] wr [] => Drift.Tide.cell d2 (by simp) q
          have td3 := fun q : Drift.Tide [] wr [] => Drift.Tide.cell d3 (by simp) q
          have td4 := fun q : Drift.Tide [] wr [] => Drift.Tide.cell d4 (by simp) q
          have tx0 := fun q : Drift.Tide [] wr [] => Drift.Tide.cell x0 (by simp) q
          clear g0 g1 g2 g3 g4 g5 g6 g7 d0 d1 d2 d3 d4 x0
          refine Drift.wp_region_drift [] [(0,[]),(1,[]),(2,[]),(3,[]),(4,[]),(5,[]),(6,[]),(7,[]),(8,[]),(9,[]),(10,[]),(11,[]),(12,[]),(13,[]),(14,[]),(15,[]),(16,[]),(17,[]),(18,[])] [] [] (by kernel_rfl) (by kernel_rfl) (by simp) ?_
          simp only [Drift.pick, Drift.opsAt, List.getElem?_toArray, List.getElem?_cons_zero, List.getElem?_cons_succ, List.cons_append, List.nil_append, List.filterMap_nil]
          iterate 7 (refine Drift.walk_step (fun K hK => ?_); go_simp; (refine hK _ ?_; clear hK K))
          refine Drift.walk_step (fun K hK => ?_); go_simp; (apply Exists.intro; refine ⟨fun q => ?_, hK _ ?_⟩; (go_at_call 44; exact (c12 _).out); clear hK K)
          iterate 8 (refine Drift.walk_step (fun K hK => ?_); go_simp; (refine hK _ ?_; clear hK K))
          refine Drift.walk_step (fun K hK => ?_); go_simp; (apply Exists.intro; refine ⟨fun q => ?_, hK _ ?_⟩; (go_at_call 47; exact (c13 _).out); clear hK K)
          iterate 2 (refine Drift.walk_step (fun K hK => ?_); go_simp; (refine hK _ ?_; clear hK K))
          refine Drift.walk_nil ?_
          intro w9 hb _
          replace HB := Lib.hid (HB.out.kept hb)
          clear hb tg0 tg1 tg2 tg3 tg4 tg5 tg6 tg7 td0 td1 td2 td3 td4 tx0 c12 c13 hc1 hc2
          simp only [List.length_cons, List.length_nil, List.drop_succ_cons, List.drop_nil, Nat.zero_add, Nat.reduceAdd]
          have hw : IntKind.i64.wrap ((k : Int) + 1) = ((k + 1 : Nat) : Int) := by rw [IntKind.wrap_i64]; omega
          go_wp2_with fail
          go_roundg (pn - (k + 1))
          case measure => omega
          case rel => exact ⟨k + 1, t2, hlt, rfl, by go_num, rfl, HT2, HB⟩
        · obtain rfl : pn = k := by omega
          have HE : Hid (t = strOf A3) := by unfold Hid; rw [HT.out, HA3.out _ rfl]
          obtain rfl := HE.out
          have hw3 := HW3.out
          have hw4 := HW4.out
          have hw5 := HW5.out
          have hw6 := HW6.out
          clear hlt HC2 HA3 c7 c8 HT HE
          go_upto_region 20 with (go_at_call 45; refine (c9 _).out.mono ?_; rintro e w10 ⟨rfl, hb⟩; replace HB := Lib.hid (HB.out.kept hb); clear hb c9 g0 g1 g2 g3 g4 g5 g6 g7 d0 d1 d2 d3 d4)
          clear hw3 hw4 hw5 hw6 HW3 HW4 HW5 HW6 e7
          go_wp2_with fail
          go_loopg [5, 9] bn (fun gk sv iv wr => ∃ (k : Nat) (t : ByteArray), k ≤ bn ∧ gk = bn - k ∧ iv = .int .i64 (k : Int) ∧ sv = .string t ∧ Hid (t = strOf (runF A4 mf B k)) ∧ Hid (Bx2 W g (.cells #[.int .i64 cB, .int .i64 cY, .int .i64 cF, .int .i64 cN, .int .i64 cU, .int .i64 cL, .int .i64 cKy, .int .i64 cV] 23) (.cells #[.int .i64 (l : Int), .slice kA kn kc, .slice pA pn pc, .slice bA bn bc, .slice qA qn qc] 29) wr))
          case atStart => exact ⟨0, _, Nat.zero_le _, rfl, rfl, rfl, by rw [HZ3.out]; rfl, HB⟩
          case round =>
            clear HB HZ3
            obtain ⟨k, t, hk, rfl, rfl, rfl, HT, HB⟩ := hrel
            obtain ⟨g0, g1, g2, g3, g4, g5, g6, g7⟩ := box8 HB.out.x
            obtain ⟨d0, d1, d2, d3, d4⟩ := box5 HB.out.y
            by_cases hlt : k < bn
            · obtain ⟨x, hx⟩ : ∃ x, B[k]? = some x := ⟨B[k]'(by rw [HBN.out]; exact hlt), List.getElem?_eq_getElem _⟩
              obtain ⟨b, o, e, -, x0, x1, x2⟩ := RdK.msg (HN.out.buf.1.kept HB.out.below) hx
              subst e
              obtain ⟨t1, hc1, hc2⟩ := HC3.out k x hx
              rw [← HT.out] at hc1
              obtain ⟨t2, ht2⟩ : ∃ t2, t2 = strOf (runF A4 mf B (k + 1)) := ⟨_, rfl⟩
              rw [← ht2] at hc2
              have HT2 := Lib.hid ht2
              clear ht2
              have c12 := fun W => c10 x (List.mem_of_getElem? hx) W
              generalize strOf (pairL ⟨cB, cY, cF, cN, cU, cL, cKy, cV⟩ x.1 x.2.2) = px at *
              obtain ⟨xk, xd, xv⟩ := x
              simp only at x0 x1 x2 c12 hc1 hc2
              clear hx c10 HC3 HA5 c11
              cases xd with
              | false =>
                go_upto_region 26 with fail
                have hc3 : ∀ w, (Op.stringOp .add t ⟨#[1]⟩).run Tryz.prog w = .ok (.string t1) w := hc1
                clear hc1
                have tg0 := fun q : Drift.Tide [] wr [] => Drift.Tide.cell g0 (by simp) q
                have tg1 := fun q : Drift.Tide [] wr [] => Drift.Tide.cell g1 (by simp) q
                have tg2 := fun q : Drift.Tide [] wr [] => Drift.Tide.cell g2 (by simp) q
                have tg3 := fun q : Drift.Tide [] wr [] => Drift.Tide.cell g3 (by simp) q
                have tg4 := fun q : Drift.Tide [] wr [] => Drift.Tide.cell g4 (by simp) q
                have tg5 := fun q : Drift.Tide [] wr [] => Drift.Tide.cell g5 (by simp) q
                have tg6 := fun q : Drift.Tide [] wr [] => Drift.Tide.cell g6 (by simp) q
                have tg7 := fun q : Drift.Tide [] wr [] => Drift.Tide.cell g7 (by simp) q
                have td0 := fun q : Drift.Tide [] wr [] => Drift.Tide.cell d0 (by simp) q
                have td1 := fun q : Drift.Tide [] wr [] => Drift.Tide.cell d1 (by simp) q
                have td2 := fun q : Drift.Tide [] wr [] => Drift.Tide.cell d2 (by simp) q
                have td3 := fun q : Drift.Tide [] wr [] => Drift.Tide.cell d3 (by simp) q
                have td4 := fun q : Drift.Tide [] wr [] => Drift.Tide.cell d4 (by simp) q
                have tx0 := fun q : Drift.Tide [] wr [] => Drift.Tide.cell x0 (by simp) q
                have tx1 := fun q : Drift.Tide [] wr [] => Drift.Tide.cell x1 (by simp) q
                have tx2 := fun q : Drift.Tide [] wr [] => Drift.Tide.cell x2 (by simp) q
                clear g0 g1 g2 g3 g4 g5 g6 g7 d0 d1 d2 d3 d4 x0 x1 x2
                refine Drift.wp_region_drift [] [(0,[]),(1,[]),(2,[]),(3,[]),(4,[]),(5,[]),(6,[]),(7,[]),(8,[]),(9,[]),(10,[]),(11,[]),(12,[]),(13,[]),(14,[]),(15,[]),(16,[]),(17,[]),(18,[])] [] [] (by kernel_rfl) (by kernel_rfl) (by simp) ?_
                simp only [Drift.pick, Drift.opsAt, List.getElem?_toArray, List.getElem?_cons_zero, List.getElem?_cons_succ, List.cons_append, List.nil_append, List.filterMap_nil]
                iterate 16 (refine Drift.walk_step (fun K hK => ?_); go_simp; (refine hK _ ?_; clear hK K))
                refine Drift.walk_step (fun K hK => ?_); go_simp; (apply Exists.intro; refine ⟨fun q => ?_, hK _ ?_⟩; (go_at_call 46; exact (c12 _).out); clear hK K)
                iterate 2 (refine Drift.walk_step (fun K hK => ?_); go_simp; (refine hK _ ?_; clear hK K))
                refine Drift.walk_nil ?_
                intro w12 hb _
                replace HB := Lib.hid (HB.out.kept hb)
                clear hb tg0 tg1 tg2 tg3 tg4 tg5 tg6 tg7 td0 td1 td2 td3 td4 tx0 tx1 tx2 c12 hc3 hc2
                simp only [List.length_cons, List.length_nil, List.drop_succ_cons, List.drop_nil, Nat.zero_add, Nat.reduceAdd]
                have hw : IntKind.i64.wrap ((k : Int) + 1) = ((k + 1 : Nat) : Int) := by rw [IntKind.wrap_i64]; omega
                go_wp2_with fail
                go_roundg (bn - (k + 1))
                case measure => omega
                case rel => exact ⟨k + 1, t2, hlt, rfl, by go_num, rfl, HT2, HB⟩
              | true =>
                go_upto_region 26 with fail
                have hc3 : ∀ w, (Op.stringOp .add t ⟨#[2]⟩).run Tryz.prog w = .ok (.string t1) w := hc1
                clear hc1
                have tg0 := fun q : Drift.Tide [] wr [] => Drift.Tide.cell g0 (by simp) q
                have tg1 := fun q : Drift.Tide [] wr [] => Drift.Tide.cell g1 (by simp) q
                have tg2 := fun q : Drift.Tide [] wr [] => Drift.Tide.cell g2 (by simp) q
                have tg3 := fun q : Drift.Tide [] wr [] => Drift.Tide.cell g3 (by simp) q
                have tg4 := fun q : Drift.Tide [] wr [] => Drift.Tide.cell g4 (by simp) q
                have tg5 := fun q : Drift.Tide [] wr [] => Drift.Tide.cell g5 (by simp) q
                have tg6 := fun q : Drift.Tide [] wr [] => Drift.Tide.cell g6 (by simp) q
                have tg7 := fun q : Drift.Tide [] wr [] => Drift.Tide.cell g7 (by simp) q
                have td0 := fun q : Drift.Tide [] wr [] => Drift.Tide.cell d0 (by simp) q
                have td1 := fun q : Drift.Tide [] wr [] => Drift.Tide.cell d1 (by simp) q
                have td2 := fun q : Drift.Tide [] wr [] => Drift.Tide.cell d2 (by simp) q
                have td3 := fun q : Drift.Tide [] wr [] => Drift.Tide.cell d3 (by simp) q
                have td4 := fun q : Drift.Tide [] wr [] => Drift.Tide.cell d4 (by simp) q
                have tx0 := fun q : Drift.Tide [] wr [] => Drift.Tide.cell x0 (by simp) q
                have tx1 := fun q : Drift.Tide [] wr [] => Drift.Tide.cell x1 (by simp) q
                have tx2 := fun q : Drift.Tide [] wr [] => Drift.Tide.cell x2 (by simp) q
                clear g0 g1 g2 g3 g4 g5 g6 g7 d0 d1 d2 d3 d4 x0 x1 x2
                refine Drift.wp_region_drift [] [(0,[]),(1,[]),(2,[]),(3,[]),(4,[]),(5,[]),(6,[]),(7,[]),(8,[]),(9,[]),(10,[]),(11,[]),(12,[]),(13,[]),(14,[]),(15,[]),(16,[]),(17,[]),(18,[])] [] [] (by kernel_rfl) (by kernel_rfl) (by simp) ?_
                simp only [Drift.pick, Drift.opsAt, List.getElem?_toArray, List.getElem?_cons_zero, List.getElem?_cons_succ, List.cons_append, List.nil_append, List.filterMap_nil]
                iterate 16 (refine Drift.walk_step (fun K hK => ?_); go_simp; (refine hK _ ?_; clear hK K))
                refine Drift.walk_step (fun K hK => ?_); go_simp; (apply Exists.intro; refine ⟨fun q => ?_, hK _ ?_⟩; (go_at_call 46; exact (c12 _).out); clear hK K)
                iterate 2 (refine Drift.walk_step (fun K hK => ?_); go_simp; (refine hK _ ?_; clear hK K))
                refine Drift.walk_nil ?_
                intro w12 hb _
                replace HB := Lib.hid (HB.out.kept hb)
                clear hb tg0 tg1 tg2 tg3 tg4 tg5 tg6 tg7 td0 td1 td2 td3 td4 tx0 tx1 tx2 c12 hc3 hc2
                simp only [List.length_cons, List.length_nil, List.drop_succ_cons, List.drop_nil, Nat.zero_add, Nat.reduceAdd]
                have hw : IntKind.i64.wrap ((k : Int) + 1) = ((k + 1 : Nat) : Int) := by rw [IntKind.wrap_i64]; omega
                go_wp2_with fail
                go_roundg (bn - (k + 1))
                case measure => omega
                case rel => exact ⟨k + 1, t2, hlt, rfl, by go_num, rfl, HT2, HB⟩
            · obtain rfl : k = bn := by omega
              have HE : Hid (t = strOf A5) := by unfold Hid; rw [HT.out, HA5.out _ rfl]
              obtain rfl := HE.out
              clear hlt HC3 HA5 c10 HT HE
              go_wp2_with (go_at_call 47; refine (c11 _).out.mono ?_; rintro e w14 ⟨rfl, hb⟩; replace HB := Lib.hid (HB.out.kept hb))
              go_ret
              exact ⟨rfl, HB.out.below⟩
end No
end Go.Proofs.YtgpbioljldkmaaaGreat
