/-
  PourC3. Put together by pack.py.
-/
import Derived.Test.YtlabbmfiecbigaaPqPourC2
import Derived.Test.YtlabbmfiecbigaaPkAL
import Derived.Test.YtlabbmfiecbigaaPkAZ
import Derived.Test.YtlabbmfiecbigaaPkBB

namespace Go.Proofs.Ytlabbmfiecbigaa
open Go.RowKit
namespace No
open Mem Lx Bu Lf Fa
/-- a box that holds a node -/
def IsBox (w : World) (b : Nat) : Prop := ∃ (v : Int) (A0 A1 A2 A3 : Option Addr) (n0 c0 n1 c1 n2 c2 n3 c3 : Nat) (U : TypeId), w.heap[b]? = some (.cells #[.int .i64 v, .slice A0 n0 c0, .slice A1 n1 c1, .slice A2 n2 c2, .slice A3 n3 c3] U (0, 0))
/-- a kind of cells that a node's box has not -/
def Strange {α : Type} (K : Kind α) : Prop := ∀ x, ∃ u, (K.cs x)[0]? = some u ∧ (∀ n, u ≠ .int .i64 n) ∧ ∀ A n c, u ≠ .slice A n c
theorem strange_kd : Strange KdK := fun x => ⟨.int .u32 x, rfl, (fun n h => by cases h), fun A n c h => by cases h⟩
theorem strange_st : Strange StK := fun x => ⟨.string x, rfl, (fun n h => by cases h), fun A n c h => by cases h⟩
theorem strange_mg : Strange MgK := fun x => ⟨.string x.1, rfl, (fun n h => by cases h), fun A n c h => by cases h⟩
theorem strange_pr : Strange PrK := fun x => ⟨.string x.1, rfl, (fun n h => by cases h), fun A n c h => by cases h⟩
/-- a row lies in no box of a node -/
theorem rc_off {α : Type} {K : Kind α} {w : World} {A : Option Addr} {c g : Nat} {L : List α} (h : RC K w A c L) (hx : IsBox w g) (hs : Strange K) : ∀ y, 0 < L.length → A = some y → y.block ≠ g := fun y h0 hy hg => by
  obtain ⟨v, A0, A1, A2, A3, n0, c0, n1, c1, n2, c2, n3, c3, U, hx⟩ := hx
  obtain ⟨b, o, e, hl, hc⟩ := h.1 h0
  rw [hy] at e
  cases e
  simp only at hg
  subst hg
  obtain ⟨x, hx0⟩ : ∃ x, L[0]? = some x := ⟨L[0], List.getElem?_eq_getElem h0⟩
  obtain ⟨u, hu, hu1, hu2⟩ := hs x
  have h1 := hc 0 x hx0 0 _ hu
  simp only [World.cell?, hx, Option.isSome_none, Bool.false_eq_true, if_false, Nat.zero_mul, Nat.add_zero] at h1
  match o, h1 with
  | 0, h1 => exact hu1 v (by simpa using h1.symm)
  | 1, h1 => exact hu2 A0 n0 c0 (by simpa using h1.symm)
  | 2, h1 => exact hu2 A1 n1 c1 (by simpa using h1.symm)
  | 3, h1 => exact hu2 A2 n2 c2 (by simpa using h1.symm)
  | 4, h1 => exact hu2 A3 n3 c3 (by simpa using h1.symm)
  | o + 5, h1 => simp at h1
theorem rc_box {α : Type} {K : Kind α} {w w' : World} {A : Option Addr} {c : Nat} {L : List α} {T : List Nat} (h : RC K w A c L) (hi : Flow.Into T w w') (hT : ∀ b ∈ T, IsBox w b) (hs : Strange K) : RC K w' A c L := rc_into h hi fun y h0 hy hm => rc_off h (hT _ hm) hs y h0 hy rfl
theorem nd_box {w w' : World} {n : Nd} {a : At} {T : List Nat} (h : NdIn w n a) (hi : Flow.Into T w w') (hT : ∀ b ∈ T, IsBox w b) : NdIn w' n a := ⟨rc_box h.kids hi hT strange_kd, rc_box h.piv hi hT strange_st, rc_box h.buf hi hT strange_mg, rc_box h.prs hi hT strange_pr⟩
/-- a node told, its lists' lengths by name -/
def EvN (lv : Int) (kn pn bn qn : Nat) (N : Nd) (v : Value) (w : World) : Prop := ∃ z : At, v = .agg #[.int .i64 lv, .slice z.kA kn z.kc, .slice z.pA pn z.pc, .slice z.bA bn z.bc, .slice z.qA qn z.qc] ∧ NdIn w N z
theorem EvNd.evn {n : Nd} {v : Value} {w : World} (h : EvNd n v w) : EvN n.lv n.kids.length n.piv.length n.buf.length n.prs.length n v w := h
/-- the same, and two boxes as they were -/
def EvG (X Y : Obj) (b1 b2 : Nat) (lv : Int) (kn pn bn qn : Nat) (N : Nd) (v : Value) (w : World) : Prop := EvN lv kn pn bn qn N v w ∧ w.heap[b1]? = some X ∧ w.heap[b2]? = some Y
/-- what Take tells -/
def EvTk (t1 t2 : Nat) (T1 T2 : List Mg) (v : Value) (w : World) : Prop := ∃ A1 c1 A2 c2, v = .tuple #[.slice A1 t1 c1, .slice A2 t2 c2] ∧ RC MgK w A1 c1 T1 ∧ RC MgK w A2 c2 T2
section
variable {W w : World} {g : Nat} {X Y Z M N : Obj} {u0 u1 u2 u3 u4 : Value} {U : TypeId}
theorem Q5.five_y (h : Q5 W g X (.cells #[u0, u1, u2, u3, u4] U (0, 0)) Z M N w) (v0 v1 v2 v3 v4 : Value) : Q5 W g X (.cells #[v0, v1, v2, v3, v4] U (0, 0)) Z M N (set5 w (g + 1) v0 v1 v2 v3 v4) :=
  ⟨h.b3.set5y _ _ _ _ _, (set5_other _ _ _ _ _ (by omega)).trans h.m, (set5_other _ _ _ _ _ (by omega)).trans h.n⟩
theorem Q5.five_z (h : Q5 W g X Y (.cells #[u0, u1, u2, u3, u4] U (0, 0)) M N w) (v0 v1 v2 v3 v4 : Value) : Q5 W g X Y (.cells #[v0, v1, v2, v3, v4] U (0, 0)) M N (set5 w (g + 1 + 1) v0 v1 v2 v3 v4) :=
  ⟨h.b3.set5z _ _ _ _ _, (set5_other _ _ _ _ _ (by omega)).trans h.m, (set5_other _ _ _ _ _ (by omega)).trans h.n⟩
end
theorem IsBox.of {w : World} {b : Nat} {v : Int} {A0 A1 A2 A3 : Option Addr} {n0 c0 n1 c1 n2 c2 n3 c3 : Nat} {U : TypeId} (h : w.heap[b]? = some (.cells #[.int .i64 v, .slice A0 n0 c0, .slice A1 n1 c1, .slice A2 n2 c2, .slice A3 n3 c3] U (0, 0))) : IsBox w b := ⟨v, A0, A1, A2, A3, n0, c0, n1, c1, n2, c2, n3, c3, U, h⟩
theorem IsBox.one {w : World} {b : Nat} (h : IsBox w b) : ∀ k ∈ [b], IsBox w k := fun k hk => by
  obtain rfl : k = b := by simpa using hk
  exact h
theorem IsBox.two {w : World} {b d : Nat} (h : IsBox w b) (h' : IsBox w d) : ∀ k ∈ [b, d], IsBox w k := fun k hk => by
  rcases (by simpa using hk : k = b ∨ k = d) with rfl | rfl
  · exact h
  · exact h'
set_option maxRecDepth 100000 in
set_option maxHeartbeats 16000000 in
theorem Pour_any {W : World} (c : Cfg) {p k : Nd} {a b : At} (ha : NdIn W p a) (hb : NdIn W k b) (fp : Fit p) (fk : Fit k) (i most : Int) (hl : 1 ≤ p.lv ∧ p.lv ≤ 40) (hc : 0 ≤ c.buffer ∧ c.buffer ≤ 1000000) (hfew : p.kids.length = p.piv.length + 1) (hpt : RightS p.piv ⟨#[]⟩ ⟨#[]⟩ true) (hri : Ri p.buf) (hk : ¬ NoPour p i k → (k.lv = 0 → PRi k.prs) ∧ (k.lv ≠ 0 → Ri k.buf)) : Calls Try.prog 7 #[.agg (cfCs c), .agg (ndCs p a), .int .i64 i, .agg (ndCs k b), .int .i64 most] W fun e w' => (∃ v, e = .returned v ∧ EvPour (pourN c p i k most) v w') ∧ Below W.heap.size W w' := by
  obtain ⟨PP, hPP⟩ : ∃ n, n = p := ⟨_, rfl⟩
  obtain ⟨KK, hKK⟩ : ∃ n, n = k := ⟨_, rfl⟩
  have cP : ∀ w, Below W.heap.size W w → Hid (Calls Try.prog 15 #[.agg (ndCs p a)] w fun e w' => (∃ v, e = .returned v ∧ EvN p.lv p.kids.length p.piv.length p.buf.length p.prs.length PP v w') ∧ Below w.heap.size w w') := fun w h => (Clone_any (ha.kept h) fp).mono fun e w' ⟨⟨z, he, hz⟩, hb⟩ => ⟨⟨_, he, z, rfl, by rw [hPP]; exact hz.in_⟩, hb⟩
  have cK : ∀ w, Below W.heap.size W w → Hid (Calls Try.prog 15 #[.agg (ndCs k b)] w fun e w' => (∃ v, e = .returned v ∧ EvN k.lv k.kids.length k.piv.length k.buf.length k.prs.length KK v w') ∧ Below w.heap.size w w') := fun w h => (Clone_any (hb.kept h) fk).mono fun e w' ⟨⟨z, he, hz⟩, hb⟩ => ⟨⟨_, he, z, rfl, by rw [hKK]; exact hz.in_⟩, hb⟩
  obtain ⟨r, hr⟩ := bool_of (¬ NoPour p i k)
  have cI : ∀ (w : World) (z z' : At), Hid (Calls Try.prog 16 #[.agg (ndCs p z), .int .i64 i, .agg (ndCs k z')] w fun e w' => e = .returned (.bool r) ∧ Below w.heap.size w w') := fun w z z' => CIsKid_any p k z z' i hl.1 hl.2 r hr w
  cases r with
  | false =>
    have hno : NoPour p i k := Classical.not_not.1 fun h => by cases hr.2 h
    rw [pourN_no hno]
    have HE : Hid (∀ {w z z'}, NdIn w PP z → NdIn w KK z' → EvPour (p, k, 0) (.tuple #[.agg (ndCs p z), .agg (ndCs k z'), .int .i64 0]) w) := fun {w z z'} h h' => ⟨z, z', rfl, by rw [← hPP]; exact h, by rw [← hKK]; exact h'⟩
    generalize EvPour (p, k, 0) = E at *
    clear ha hb fp fk hl hc hfew hpt hri hk hPP hKK hr hno
    obtain ⟨cB, cY, cF, cN, cU, cL, cKy, cV⟩ := c
    obtain ⟨lv, K, P, B, Q⟩ := p
    obtain ⟨lv2, K2, P2, B2, Q2⟩ := k
    obtain ⟨kA, kc, pA, pc, bA, bc, qA, qc⟩ := a
    obtain ⟨kA2, kc2, pA2, pc2, bA2, bc2, qA2, qc2⟩ := b
    unfold ndCs cfCs at *
    simp only at *
    generalize K.length = kn at *
    generalize P.length = pn at *
    generalize B.length = bn at *
    generalize Q.length = qn at *
    generalize K2.length = kn2 at *
    generalize P2.length = pn2 at *
    generalize B2.length = bn2 at *
    generalize Q2.length = qn2 at *
    go_enter Try.func7, Try.ntmps7
    go_upto_region 1 with fail
    have HX5 := Lib.hid (Q5.new W (.cells #[.int .i64 cB, .int .i64 cY, .int .i64 cF, .int .i64 cN, .int .i64 cU, .int .i64 cL, .int .i64 cKy, .int .i64 cV] 23) (.cells #[.int .i64 lv, .slice kA kn kc, .slice pA pn pc, .slice bA bn bc, .slice qA qn qc] 29) (.cells #[.int .i64 lv2, .slice kA2 kn2 kc2, .slice pA2 pn2 pc2, .slice bA2 bn2 bc2, .slice qA2 qn2 qc2] 29) (.cells #[.int .i64 0, .slice none 0 0, .slice none 0 0, .slice none 0 0, .slice none 0 0] 29) (.cells #[.int .i64 0, .slice none 0 0, .slice none 0 0, .slice none 0 0, .slice none 0 0] 29))
    generalize ((((W.alloc (.cells #[.int .i64 cB, .int .i64 cY, .int .i64 cF, .int .i64 cN, .int .i64 cU, .int .i64 cL, .int .i64 cKy, .int .i64 cV] 23)).alloc (.cells #[.int .i64 lv, .slice kA kn kc, .slice pA pn pc, .slice bA bn bc, .slice qA qn qc] 29)).alloc (.cells #[.int .i64 lv2, .slice kA2 kn2 kc2, .slice pA2 pn2 pc2, .slice bA2 bn2 bc2, .slice qA2 qn2 qc2] 29)).alloc (.cells #[.int .i64 0, .slice none 0 0, .slice none 0 0, .slice none 0 0, .slice none 0 0] 29)).alloc (.cells #[.int .i64 0, .slice none 0 0, .slice none 0 0, .slice none 0 0, .slice none 0 0] 29) = w1 at *
    obtain ⟨g, hg⟩ : ∃ g, g = W.heap.size := ⟨_, rfl⟩
    rw [← hg] at HX5
    simp only [← hg]
    clear hg
    obtain ⟨d0, d1, d2, d3, d4⟩ := box5 HX5.out.b3.y
    obtain ⟨e0, e1, e2, e3, e4⟩ := box5 HX5.out.b3.z
    have td0 := fun q : Drift.Tide [] w1 [] => Drift.Tide.cell d0 (by simp) q
    have td1 := fun q : Drift.Tide [] w1 [] => Drift.Tide.cell d1 (by simp) q
    have td2 := fun q : Drift.Tide [] w1 [] => Drift.Tide.cell d2 (by simp) q
    have td3 := fun q : Drift.Tide [] w1 [] => Drift.Tide.cell d3 (by simp) q
    have td4 := fun q : Drift.Tide [] w1 [] => Drift.Tide.cell d4 (by simp) q
    have te0 := fun q : Drift.Tide [] w1 [] => Drift.Tide.cell e0 (by simp) q
    have te1 := fun q : Drift.Tide [] w1 [] => Drift.Tide.cell e1 (by simp) q
    have te2 := fun q : Drift.Tide [] w1 [] => Drift.Tide.cell e2 (by simp) q
    have te3 := fun q : Drift.Tide [] w1 [] => Drift.Tide.cell e3 (by simp) q
    have te4 := fun q : Drift.Tide [] w1 [] => Drift.Tide.cell e4 (by simp) q
    clear d0 d1 d2 d3 d4 e0 e1 e2 e3 e4
    refine Drift.wp_region_drift [] [(0,[]),(2,[]),(1,[]),(3,[])] [1, 3] [] (by kernel_rfl) (by kernel_rfl) (by simp) ?_
    simp only [Drift.pick, Drift.opsAt, List.getElem?_toArray, List.getElem?_cons_zero, List.getElem?_cons_succ, List.cons_append, List.nil_append, List.filterMap_nil]
    repeat (refine Drift.walk_step (fun K hK => ?_); go_simp; (refine hK _ ?_; clear hK K))
    refine Drift.walk_event rfl Drift.mkwalk_nil (EvN lv kn pn bn qn PP) (fun W2 hk _ => ?_) (fun v w2 hv hI _ hTd => ?_)
    · go_simp
      go_at_call 15
      refine (cP _ (HX5.out.kept hk).b3.below).out.mono ?_
      rintro e w' ⟨⟨v, rfl, hv⟩, hb⟩
      exact ⟨_, rfl, hv, Flow.Into.of_below hb⟩
    obtain ⟨zp, rfl, hzp⟩ := hv
    have HP := Lib.hid hzp
    have HI := Lib.hid hI.below
    clear hI hTd hzp cP
    repeat (refine Drift.walk_step (fun K hK => ?_); go_simp; (refine hK _ ?_; clear hK K))
    refine Drift.walk_event rfl Drift.mkwalk_nil (EvN lv2 kn2 pn2 bn2 qn2 KK) (fun W2 hk _ => ?_) (fun v w3 hv hI _ hTd => ?_)
    · go_simp
      go_at_call 15
      refine (cK _ ((HX5.out.kept HI.out).kept hk).b3.below).out.mono ?_
      rintro e w' ⟨⟨v, rfl, hv⟩, hb⟩
      exact ⟨_, rfl, hv, Flow.Into.of_below hb⟩
    obtain ⟨zk, rfl, hzk⟩ := hv
    have HK := Lib.hid hzk
    replace HP := Lib.hid (HP.out.kept hI.below)
    replace HX5 := Lib.hid ((HX5.out.kept HI.out).kept hI.below)
    clear hI hTd hzk cK HI td0 td1 td2 td3 td4 te0 te1 te2 te3 te4
    refine Drift.walk_nil ?_
    intro w4 hb4 _
    replace HK := Lib.hid (HK.out.kept hb4)
    replace HP := Lib.hid (HP.out.kept hb4)
    replace HX5 := Lib.hid (HX5.out.kept hb4)
    clear hb4
    obtain ⟨d0, d1, d2, d3, d4⟩ := box5 HX5.out.b3.y
    obtain ⟨e0, e1, e2, e3, e4⟩ := box5 HX5.out.b3.z
    have y0 := free5 HX5.out.b3.y 0; have y1 := free5 HX5.out.b3.y 1; have y2 := free5 HX5.out.b3.y 2; have y3 := free5 HX5.out.b3.y 3; have y4 := free5 HX5.out.b3.y 4
    have x0 := free5 HX5.out.b3.z 0; have x1 := free5 HX5.out.b3.z 1; have x2 := free5 HX5.out.b3.z 2; have x3 := free5 HX5.out.b3.z 3; have x4 := free5 HX5.out.b3.z 4
    have hq1 := HX5.out.five_y (.int .i64 lv) (.slice zp.kA kn zp.kc) (.slice zp.pA pn zp.pc) (.slice zp.bA bn zp.bc) (.slice zp.qA qn zp.qc)
    have hq2 := hq1.five_z (.int .i64 lv2) (.slice zk.kA kn2 zk.kc) (.slice zk.pA pn2 zk.pc) (.slice zk.bA bn2 zk.bc) (.slice zk.qA qn2 zk.qc)
    have hi1 := into_set5 w4 (g + 1) (.int .i64 lv) (.slice zp.kA kn zp.kc) (.slice zp.pA pn zp.pc) (.slice zp.bA bn zp.bc) (.slice zp.qA qn zp.qc)
    have hi2 := into_set5 (set5 w4 (g + 1) (.int .i64 lv) (.slice zp.kA kn zp.kc) (.slice zp.pA pn zp.pc) (.slice zp.bA bn zp.bc) (.slice zp.qA qn zp.qc)) (g + 1 + 1) (.int .i64 lv2) (.slice zk.kA kn2 zk.kc) (.slice zk.pA pn2 zk.pc) (.slice zk.bA bn2 zk.bc) (.slice zk.qA qn2 zk.qc)
    have HP2 := Lib.hid (nd_box (nd_box HP.out hi1 (IsBox.of HX5.out.b3.y).one) hi2 (IsBox.of hq1.b3.z).one)
    have HK2 := Lib.hid (nd_box (nd_box HK.out hi1 (IsBox.of HX5.out.b3.y).one) hi2 (IsBox.of hq1.b3.z).one)
    have HQ := Lib.hid hq2
    unfold set5 at HP2 HK2 HQ
    clear hq1 hq2 hi1 hi2 HP HK HX5
    simp only [List.length_cons, List.length_nil, List.drop_succ_cons, List.drop_zero, Nat.zero_add, Nat.reduceAdd]
    go_upto_region 2 with fail
    generalize (((((((((w4.setCell ⟨g + 1, 0, none⟩ (.int .i64 lv)).setCell ⟨g + 1, 1, none⟩ (.slice zp.kA kn zp.kc)).setCell ⟨g + 1, 2, none⟩ (.slice zp.pA pn zp.pc)).setCell ⟨g + 1, 3, none⟩ (.slice zp.bA bn zp.bc)).setCell ⟨g + 1, 4, none⟩ (.slice zp.qA qn zp.qc)).setCell ⟨g + 1 + 1, 0, none⟩ (.int .i64 lv2)).setCell ⟨g + 1 + 1, 1, none⟩ (.slice zk.kA kn2 zk.kc)).setCell ⟨g + 1 + 1, 2, none⟩ (.slice zk.pA pn2 zk.pc)).setCell ⟨g + 1 + 1, 3, none⟩ (.slice zk.bA bn2 zk.bc)).setCell ⟨g + 1 + 1, 4, none⟩ (.slice zk.qA qn2 zk.qc) = w5 at *
    clear d0 d1 d2 d3 d4 e0 e1 e2 e3 e4 y0 y1 y2 y3 y4 x0 x1 x2 x3 x4
    obtain ⟨d0, d1, d2, d3, d4⟩ := box5 HQ.out.b3.y
    obtain ⟨e0, e1, e2, e3, e4⟩ := box5 HQ.out.b3.z
    replace cI := fun w => cI w zp zk
    go_upto_region 3 with (go_at_call 16; refine (cI _).out.mono ?_; rintro e w6 ⟨rfl, hb⟩; replace HQ := Lib.hid (HQ.out.kept hb); replace HP2 := Lib.hid (HP2.out.kept hb); replace HK2 := Lib.hid (HK2.out.kept hb); clear hb d0 d1 d2 d3 d4 e0 e1 e2 e3 e4 cI)
    obtain ⟨m0, m1, m2, m3, m4⟩ := box5 HQ.out.b3.y
    obtain ⟨n0, n1, n2, n3, n4⟩ := box5 HQ.out.b3.z
    have hgm : g + 1 ∉ [g + 1 + 1 + 1, g + 1 + 1 + 1 + 1] := by simp
    have hgn : g + 1 + 1 ∉ [g + 1 + 1 + 1, g + 1 + 1 + 1 + 1] := by simp
    have tm0 := fun q : Drift.Tide [g + 1 + 1 + 1, g + 1 + 1 + 1 + 1] w6 [] => Drift.Tide.cell m0 hgm q
    have tm1 := fun q : Drift.Tide [g + 1 + 1 + 1, g + 1 + 1 + 1 + 1] w6 [] => Drift.Tide.cell m1 hgm q
    have tm2 := fun q : Drift.Tide [g + 1 + 1 + 1, g + 1 + 1 + 1 + 1] w6 [] => Drift.Tide.cell m2 hgm q
    have tm3 := fun q : Drift.Tide [g + 1 + 1 + 1, g + 1 + 1 + 1 + 1] w6 [] => Drift.Tide.cell m3 hgm q
    have tm4 := fun q : Drift.Tide [g + 1 + 1 + 1, g + 1 + 1 + 1 + 1] w6 [] => Drift.Tide.cell m4 hgm q
    have tn0 := fun q : Drift.Tide [g + 1 + 1 + 1, g + 1 + 1 + 1 + 1] w6 [] => Drift.Tide.cell n0 hgn q
    have tn1 := fun q : Drift.Tide [g + 1 + 1 + 1, g + 1 + 1 + 1 + 1] w6 [] => Drift.Tide.cell n1 hgn q
    have tn2 := fun q : Drift.Tide [g + 1 + 1 + 1, g + 1 + 1 + 1 + 1] w6 [] => Drift.Tide.cell n2 hgn q
    have tn3 := fun q : Drift.Tide [g + 1 + 1 + 1, g + 1 + 1 + 1 + 1] w6 [] => Drift.Tide.cell n3 hgn q
    have tn4 := fun q : Drift.Tide [g + 1 + 1 + 1, g + 1 + 1 + 1 + 1] w6 [] => Drift.Tide.cell n4 hgn q
    have hS : ∀ k, k ∈ [g + 1 + 1 + 1, g + 1 + 1 + 1 + 1] → k < w6.heap.size := fun k hk => by
      have h9 := HQ.out.size
      have : k = g + 1 + 1 + 1 ∨ k = g + 1 + 1 + 1 + 1 := by simpa using hk
      omega
    clear m0 m1 m2 m3 m4 n0 n1 n2 n3 n4 hgm hgn
    refine Drift.wp_region_drift [g + 1 + 1 + 1, g + 1 + 1 + 1 + 1] [(0,[]),(1,[]),(2,[]),(3,[]),(4,[])] [2, 3] [] (by kernel_rfl) (by kernel_rfl) hS ?_
    clear hS
    simp only [Drift.pick, Drift.opsAt, List.getElem?_toArray, List.getElem?_cons_zero, List.getElem?_cons_succ, List.cons_append, List.nil_append, List.filterMap_nil]
    repeat (refine Drift.walk_step (fun K hK => ?_); go_simp; (refine hK _ ?_; clear hK K))
    refine Drift.walk_event rfl Drift.mkwalk_nil (EvFill w6 (g + 1 + 1 + 1) #[.int .i64 lv, .slice zp.kA kn zp.kc, .slice zp.pA pn zp.pc, .slice zp.bA bn zp.bc, .slice zp.qA qn zp.qc]) (fun W2 hk _ => ?_) (fun v w20 hv hI _ hTd => ?_)
    · have hy := (HQ.out.kept hk).m
      obtain ⟨s0, s1, s2, s3, s4⟩ := box5 hy
      have y0 := free5 hy 0; have y1 := free5 hy 1; have y2 := free5 hy 2; have y3 := free5 hy 3; have y4 := free5 hy 4
      have hs5 := set5_at hy (.int .i64 lv) (.slice zp.kA kn zp.kc) (.slice zp.pA pn zp.pc) (.slice zp.bA bn zp.bc) (.slice zp.qA qn zp.qc)
      have hi5 := into_set5 W2 (g + 1 + 1 + 1) (.int .i64 lv) (.slice zp.kA kn zp.kc) (.slice zp.pA pn zp.pc) (.slice zp.bA bn zp.bc) (.slice zp.qA qn zp.qc)
      unfold set5 at hs5 hi5
      have HS5 := Lib.hid hs5
      have HI4 := Lib.hid hi5
      have HI5 : Hid (Flow.Into [g + 1 + 1 + 1] w6 _) := (Flow.Into.of_below hk).trans hi5
      clear hs5 hi5 hy
      go_simp
      exact ⟨⟨rfl, HS5.out, HI5.out⟩, into_wide HI4.out (by simp)⟩
    obtain ⟨rfl, av, ai⟩ := hv
    clear hI hTd
    have HZ : Hid (w20.heap[g + 1 + 1 + 1 + 1]? = some (.cells #[.int .i64 0, .slice none 0 0, .slice none 0 0, .slice none 0 0, .slice none 0 0] 29)) := (ai.block (g + 1 + 1 + 1 + 1) (Array.getElem?_eq_some_iff.1 HQ.out.n).1 (by simp)).trans HQ.out.n
    refine Drift.walk_event rfl Drift.mkwalk_nil (EvFill w20 (g + 1 + 1 + 1 + 1) #[.int .i64 lv2, .slice zk.kA kn2 zk.kc, .slice zk.pA pn2 zk.pc, .slice zk.bA bn2 zk.bc, .slice zk.qA qn2 zk.qc]) (fun W2 hk _ => ?_) (fun v w21 hv hI _ hTd => ?_)
    · have hy := kept3 HZ.out hk
      obtain ⟨s0, s1, s2, s3, s4⟩ := box5 hy
      have y0 := free5 hy 0; have y1 := free5 hy 1; have y2 := free5 hy 2; have y3 := free5 hy 3; have y4 := free5 hy 4
      have hs5 := set5_at hy (.int .i64 lv2) (.slice zk.kA kn2 zk.kc) (.slice zk.pA pn2 zk.pc) (.slice zk.bA bn2 zk.bc) (.slice zk.qA qn2 zk.qc)
      have hi5 := into_set5 W2 (g + 1 + 1 + 1 + 1) (.int .i64 lv2) (.slice zk.kA kn2 zk.kc) (.slice zk.pA pn2 zk.pc) (.slice zk.bA bn2 zk.bc) (.slice zk.qA qn2 zk.qc)
      unfold set5 at hs5 hi5
      have HS5 := Lib.hid hs5
      have HI4 := Lib.hid hi5
      have HI5 : Hid (Flow.Into [g + 1 + 1 + 1 + 1] w20 _) := (Flow.Into.of_below hk).trans hi5
      clear hs5 hi5 hy
      go_simp
      exact ⟨⟨rfl, HS5.out, HI5.out⟩, into_wide HI4.out (by simp)⟩
    obtain ⟨rfl, bv, bi⟩ := hv
    clear hI hTd
    repeat (refine Drift.walk_step (fun K hK => ?_); go_simp; (refine hK _ ?_; clear hK K))
    refine Drift.walk_nil ?_
    intro w22 hb22 _
    have HI : Hid (Flow.Into [g + 1 + 1 + 1, g + 1 + 1 + 1 + 1] w6 w22) := ((into_wide ai (by simp)).trans (into_wide bi (by simp))).trans (Flow.Into.of_below hb22)
    have hy1 := (bi.block (g + 1 + 1 + 1) (Array.getElem?_eq_some_iff.1 av).1 (by simp)).trans av
    obtain ⟨s0, s1, s2, s3, s4⟩ := box5 (kept3 hy1 hb22)
    obtain ⟨u0, u1, u2, u3, u4⟩ := box5 (kept3 bv hb22)
    have HBW : Hid (Below W.heap.size W w22) := below_fill HQ.out.b3.below HI.out (fun k hk => by
      have h9 := HQ.out.b3.at_
      have : k = g + 1 + 1 + 1 ∨ k = g + 1 + 1 + 1 + 1 := by simpa using hk
      omega) HQ.out.b3.below.size
    have HB2 := (IsBox.of HQ.out.m).two (IsBox.of HQ.out.n)
    have HF := Lib.hid (HE.out (nd_box HP2.out HI.out HB2) (nd_box HK2.out HI.out HB2))
    clear av bv ai bi hy1 hb22 HZ HI HB2 HE HQ HP2 HK2 tm0 tm1 tm2 tm3 tm4 tn0 tn1 tn2 tn3 tn4
    simp only [List.length_cons, List.length_nil, List.drop_succ_cons, List.drop_nil, Nat.zero_add, Nat.reduceAdd]
    go_wp2_with fail
    exact bodyPost_ret (v := .tuple #[.agg #[.int .i64 lv, .slice zp.kA kn zp.kc, .slice zp.pA pn zp.pc, .slice zp.bA bn zp.bc, .slice zp.qA qn zp.qc], .agg #[.int .i64 lv2, .slice zk.kA kn2 zk.kc, .slice zk.pA pn2 zk.pc, .slice zk.bA bn2 zk.bc, .slice zk.qA qn2 zk.qc], .int .i64 0]) (by simp [results, Try.results7, go_sem, s0, s1, s2, s3, s4, u0, u1, u2, u3, u4]) rfl ⟨⟨_, rfl, HF.out⟩, HBW.out⟩
  | true =>
    have hno : ¬ NoPour p i k := hr.1 rfl
    obtain ⟨hki, hkb⟩ := hk hno
    have hi1 : 0 ≤ i ∧ i < (p.kids.length : Int) := by unfold NoPour at hno; omega
    have hi2 : ¬ (i < 0 ∨ (p.piv.length : Int) < i) := by omega
    obtain ⟨s, hs⟩ := kid_some hpt hi2
    have hfun : (fun m : Mg => inB s.1 s.2.1 s.2.2 m.1) = wayIs p.piv i := funext fun m => kid_in (srise_iff.1 hpt.2) hi2 hs m.1
    obtain ⟨rm, hrm⟩ : ∃ rm, rm = roomN c k most := ⟨_, rfl⟩
    obtain ⟨T1, hT1⟩ : ∃ T, T = (goN c p i k most).1 := ⟨_, rfl⟩
    obtain ⟨T2, hT2⟩ : ∃ T, T = (goN c p i k most).2 := ⟨_, rfl⟩
    obtain ⟨X, hX⟩ : ∃ X, X = intoN k T1 := ⟨_, rfl⟩
    have hT : takeD (fun m : Mg => inB s.1 s.2.1 s.2.2 m.1) rm p.buf = (T1, T2) := by rw [hfun, hrm, hT1, hT2]; rfl
    have hTs := takeD_sub (wayIs p.piv i) (roomN c k most) p.buf
    have hTr := (hri.taken (wayIs p.piv i) (roomN c k most)).1
    change Ri (goN c p i k most).1 at hTr
    change (goN c p i k most).1.Sublist p.buf ∧ (goN c p i k most).2.Sublist p.buf at hTs
    rw [← hT1] at hTr
    rw [← hT1, ← hT2] at hTs
    obtain ⟨⟨lo, hi, top⟩, hs2⟩ : ∃ q, q = s := ⟨_, rfl⟩
    subst hs2
    have cS : ∀ (w : World) (z : At), NdIn w PP z → Hid (Calls Try.prog 17 #[.slice z.pA p.piv.length z.pc, .int .i64 i, .agg #[.string ⟨#[]⟩, .string ⟨#[]⟩, .bool true]] w fun e w' => e = .returned (.tuple #[.agg #[.string lo, .string hi, .bool top], .bool true]) ∧ Below w.heap.size w w') := fun w z h => by
      rw [hPP] at h
      refine (Span_any h.piv i ⟨#[]⟩ ⟨#[]⟩ true (Nat.zero_le _) (Nat.zero_le _) (fun m hm => Nat.le_trans (fp.pk m hm) (by decide)) (srise_iff.1 hpt.2) (Nat.le_trans fp.piv (by decide))).mono fun e w' ⟨he, hb⟩ => ⟨?_, hb⟩
      have e1 : spanS p.piv i ⟨#[]⟩ ⟨#[]⟩ true = ((lo, hi, top), true) := hs
      rw [he, e1]
    have cY : ∀ (w : World) (z : At), Hid (Calls Try.prog 20 #[.agg (cfCs c), .agg (ndCs k z), .int .i64 most] w fun e w' => e = .returned (.int .i64 rm) ∧ Below w.heap.size w w') := fun w z => by
      rw [hrm]
      exact CMayCome_any c k z most hc (Nat.le_trans fk.buf (by decide)) w
    have cT : ∀ (w : World) (z : At), NdIn w PP z → Hid (Calls Try.prog 19 #[.slice z.bA p.buf.length z.bc, .agg #[.string lo, .string hi, .bool top], .int .i64 rm] w fun e w' => (∃ v, e = .returned v ∧ EvTk T1.length T2.length T1 T2 v w') ∧ Below w.heap.size w w') := fun w z h => by
      rw [hPP] at h
      refine (Take_row h.buf lo hi top rm hri (Nat.le_trans fp.buf (by decide))).mono fun e w' ⟨⟨A1, c1, A2, c2, he, h1, h2, _, _⟩, hb⟩ => ⟨?_, hb⟩
      rw [hT] at he h1 h2
      exact ⟨_, he, A1, c1, A2, c2, rfl, h1, h2⟩
    have cG : ∀ (w : World) (A : Option Addr) (c' : Nat) (z : At), RC MgK w A c' T1 → NdIn w KK z → Hid (Calls Try.prog 21 #[.slice A T1.length c', .agg (ndCs k z)] w fun e w' => (∃ v, e = .returned v ∧ EvN X.lv X.kids.length X.piv.length X.buf.length X.prs.length X v w') ∧ Below w.heap.size w w') := fun w A c' z h h' => by
      rw [hKK] at h'
      rw [hX]
      exact Gather_any h h' fk (Nat.le_trans hTs.1.length_le fp.buf) (fun m hm => Nat.le_trans (fp.bk m (hTs.1.subset hm)) (by decide)) hTr hki hkb
    have HE : Hid (∀ {w A2 c2} {z z' : At}, NdIn w PP z → RC MgK w A2 c2 T2 → NdIn w X z' → EvPour (pourN c p i k most) (.tuple #[.agg #[.int .i64 p.lv, .slice z.kA p.kids.length z.kc, .slice z.pA p.piv.length z.pc, .slice A2 T2.length c2, .slice z.qA p.prs.length z.qc], .agg (ndCs X z'), .int .i64 (T1.length : Int)]) w) := fun {w A2 c2 z z'} h h2 h' => by
      rw [pourN_yes hno, ← hT1, ← hT2, ← hX]
      rw [hPP] at h
      exact ⟨⟨z.kA, z.kc, z.pA, z.pc, A2, c2, z.qA, z.qc⟩, z', rfl, ⟨h.kids, h.piv, h2, h.prs⟩, h'⟩
    have HT1 := Lib.hid hTs.1.length_le
    generalize EvPour (pourN c p i k most) = E at *
    clear ha hb fp fk hl hc hfew hpt hri hk hPP hKK hr hno hki hkb hi1 hi2 hfun hrm hT1 hT2 hX hT hTs hTr hs
    obtain ⟨cB, cYy, cF, cN, cU, cL, cKy, cV⟩ := c
    obtain ⟨lv, K, P, B, Q⟩ := p
    obtain ⟨lv2, K2, P2, B2, Q2⟩ := k
    obtain ⟨kA, kc, pA, pc, bA, bc, qA, qc⟩ := a
    obtain ⟨kA2, kc2, pA2, pc2, bA2, bc2, qA2, qc2⟩ := b
    unfold ndCs cfCs at *
    simp only at *
    generalize K.length = kn at *
    generalize P.length = pn at *
    generalize B.length = bn at *
    generalize Q.length = qn at *
    generalize K2.length = kn2 at *
    generalize P2.length = pn2 at *
    generalize B2.length = bn2 at *
    generalize Q2.length = qn2 at *
    generalize X.lv = xl at *
    generalize X.kids.length = xk at *
    generalize X.piv.length = xp at *
    generalize X.buf.length = xb at *
    generalize X.prs.length = xq at *
    generalize T1.length = t1 at *
    generalize T2.length = t2 at *
    go_enter Try.func7, Try.ntmps7
    go_upto_region 1 with fail
    have HX5 := Lib.hid (Q5.new W (.cells #[.int .i64 cB, .int .i64 cYy, .int .i64 cF, .int .i64 cN, .int .i64 cU, .int .i64 cL, .int .i64 cKy, .int .i64 cV] 23) (.cells #[.int .i64 lv, .slice kA kn kc, .slice pA pn pc, .slice bA bn bc, .slice qA qn qc] 29) (.cells #[.int .i64 lv2, .slice kA2 kn2 kc2, .slice pA2 pn2 pc2, .slice bA2 bn2 bc2, .slice qA2 qn2 qc2] 29) (.cells #[.int .i64 0, .slice none 0 0, .slice none 0 0, .slice none 0 0, .slice none 0 0] 29) (.cells #[.int .i64 0, .slice none 0 0, .slice none 0 0, .slice none 0 0, .slice none 0 0] 29))
    generalize ((((W.alloc (.cells #[.int .i64 cB, .int .i64 cYy, .int .i64 cF, .int .i64 cN, .int .i64 cU, .int .i64 cL, .int .i64 cKy, .int .i64 cV] 23)).alloc (.cells #[.int .i64 lv, .slice kA kn kc, .slice pA pn pc, .slice bA bn bc, .slice qA qn qc] 29)).alloc (.cells #[.int .i64 lv2, .slice kA2 kn2 kc2, .slice pA2 pn2 pc2, .slice bA2 bn2 bc2, .slice qA2 qn2 qc2] 29)).alloc (.cells #[.int .i64 0, .slice none 0 0, .slice none 0 0, .slice none 0 0, .slice none 0 0] 29)).alloc (.cells #[.int .i64 0, .slice none 0 0, .slice none 0 0, .slice none 0 0, .slice none 0 0] 29) = w1 at *
    obtain ⟨g, hg⟩ : ∃ g, g = W.heap.size := ⟨_, rfl⟩
    rw [← hg] at HX5
    simp only [← hg]
    clear hg
    obtain ⟨d0, d1, d2, d3, d4⟩ := box5 HX5.out.b3.y
    obtain ⟨e0, e1, e2, e3, e4⟩ := box5 HX5.out.b3.z
    have td0 := fun q : Drift.Tide [] w1 [] => Drift.Tide.cell d0 (by simp) q
    have td1 := fun q : Drift.Tide [] w1 [] => Drift.Tide.cell d1 (by simp) q
    have td2 := fun q : Drift.Tide [] w1 [] => Drift.Tide.cell d2 (by simp) q
    have td3 := fun q : Drift.Tide [] w1 [] => Drift.Tide.cell d3 (by simp) q
    have td4 := fun q : Drift.Tide [] w1 [] => Drift.Tide.cell d4 (by simp) q
    have te0 := fun q : Drift.Tide [] w1 [] => Drift.Tide.cell e0 (by simp) q
    have te1 := fun q : Drift.Tide [] w1 [] => Drift.Tide.cell e1 (by simp) q
    have te2 := fun q : Drift.Tide [] w1 [] => Drift.Tide.cell e2 (by simp) q
    have te3 := fun q : Drift.Tide [] w1 [] => Drift.Tide.cell e3 (by simp) q
    have te4 := fun q : Drift.Tide [] w1 [] => Drift.Tide.cell e4 (by simp) q
    clear d0 d1 d2 d3 d4 e0 e1 e2 e3 e4
    refine Drift.wp_region_drift [] [(0,[]),(2,[]),(1,[]),(3,[])] [1, 3] [] (by kernel_rfl) (by kernel_rfl) (by simp) ?_
    simp only [Drift.pick, Drift.opsAt, List.getElem?_toArray, List.getElem?_cons_zero, List.getElem?_cons_succ, List.cons_append, List.nil_append, List.filterMap_nil]
    repeat (refine Drift.walk_step (fun K hK => ?_); go_simp; (refine hK _ ?_; clear hK K))
    refine Drift.walk_event rfl Drift.mkwalk_nil (EvN lv kn pn bn qn PP) (fun W2 hk _ => ?_) (fun v w2 hv hI _ hTd => ?_)
    · go_simp
      go_at_call 15
      refine (cP _ (HX5.out.kept hk).b3.below).out.mono ?_
      rintro e w' ⟨⟨v, rfl, hv⟩, hb⟩
      exact ⟨_, rfl, hv, Flow.Into.of_below hb⟩
    obtain ⟨zp, rfl, hzp⟩ := hv
    have HP := Lib.hid hzp
    have HI := Lib.hid hI.below
    clear hI hTd hzp cP
    repeat (refine Drift.walk_step (fun K hK => ?_); go_simp; (refine hK _ ?_; clear hK K))
    refine Drift.walk_event rfl Drift.mkwalk_nil (EvN lv2 kn2 pn2 bn2 qn2 KK) (fun W2 hk _ => ?_) (fun v w3 hv hI _ hTd => ?_)
    · go_simp
      go_at_call 15
      refine (cK _ ((HX5.out.kept HI.out).kept hk).b3.below).out.mono ?_
      rintro e w' ⟨⟨v, rfl, hv⟩, hb⟩
      exact ⟨_, rfl, hv, Flow.Into.of_below hb⟩
    obtain ⟨zk, rfl, hzk⟩ := hv
    have HK := Lib.hid hzk
    replace HP := Lib.hid (HP.out.kept hI.below)
    replace HX5 := Lib.hid ((HX5.out.kept HI.out).kept hI.below)
    clear hI hTd hzk cK HI td0 td1 td2 td3 td4 te0 te1 te2 te3 te4
    refine Drift.walk_nil ?_
    intro w4 hb4 _
    replace HK := Lib.hid (HK.out.kept hb4)
    replace HP := Lib.hid (HP.out.kept hb4)
    replace HX5 := Lib.hid (HX5.out.kept hb4)
    clear hb4
    obtain ⟨d0, d1, d2, d3, d4⟩ := box5 HX5.out.b3.y
    obtain ⟨e0, e1, e2, e3, e4⟩ := box5 HX5.out.b3.z
    have y0 := free5 HX5.out.b3.y 0; have y1 := free5 HX5.out.b3.y 1; have y2 := free5 HX5.out.b3.y 2; have y3 := free5 HX5.out.b3.y 3; have y4 := free5 HX5.out.b3.y 4
    have x0 := free5 HX5.out.b3.z 0; have x1 := free5 HX5.out.b3.z 1; have x2 := free5 HX5.out.b3.z 2; have x3 := free5 HX5.out.b3.z 3; have x4 := free5 HX5.out.b3.z 4
    have hq1 := HX5.out.five_y (.int .i64 lv) (.slice zp.kA kn zp.kc) (.slice zp.pA pn zp.pc) (.slice zp.bA bn zp.bc) (.slice zp.qA qn zp.qc)
    have hq2 := hq1.five_z (.int .i64 lv2) (.slice zk.kA kn2 zk.kc) (.slice zk.pA pn2 zk.pc) (.slice zk.bA bn2 zk.bc) (.slice zk.qA qn2 zk.qc)
    have hi1 := into_set5 w4 (g + 1) (.int .i64 lv) (.slice zp.kA kn zp.kc) (.slice zp.pA pn zp.pc) (.slice zp.bA bn zp.bc) (.slice zp.qA qn zp.qc)
    have hi2 := into_set5 (set5 w4 (g + 1) (.int .i64 lv) (.slice zp.kA kn zp.kc) (.slice zp.pA pn zp.pc) (.slice zp.bA bn zp.bc) (.slice zp.qA qn zp.qc)) (g + 1 + 1) (.int .i64 lv2) (.slice zk.kA kn2 zk.kc) (.slice zk.pA pn2 zk.pc) (.slice zk.bA bn2 zk.bc) (.slice zk.qA qn2 zk.qc)
    have HP2 := Lib.hid (nd_box (nd_box HP.out hi1 (IsBox.of HX5.out.b3.y).one) hi2 (IsBox.of hq1.b3.z).one)
    have HK2 := Lib.hid (nd_box (nd_box HK.out hi1 (IsBox.of HX5.out.b3.y).one) hi2 (IsBox.of hq1.b3.z).one)
    have HQ := Lib.hid hq2
    unfold set5 at HP2 HK2 HQ
    clear hq1 hq2 hi1 hi2 HP HK HX5
    simp only [List.length_cons, List.length_nil, List.drop_succ_cons, List.drop_zero, Nat.zero_add, Nat.reduceAdd]
    go_upto_region 2 with fail
    generalize (((((((((w4.setCell ⟨g + 1, 0, none⟩ (.int .i64 lv)).setCell ⟨g + 1, 1, none⟩ (.slice zp.kA kn zp.kc)).setCell ⟨g + 1, 2, none⟩ (.slice zp.pA pn zp.pc)).setCell ⟨g + 1, 3, none⟩ (.slice zp.bA bn zp.bc)).setCell ⟨g + 1, 4, none⟩ (.slice zp.qA qn zp.qc)).setCell ⟨g + 1 + 1, 0, none⟩ (.int .i64 lv2)).setCell ⟨g + 1 + 1, 1, none⟩ (.slice zk.kA kn2 zk.kc)).setCell ⟨g + 1 + 1, 2, none⟩ (.slice zk.pA pn2 zk.pc)).setCell ⟨g + 1 + 1, 3, none⟩ (.slice zk.bA bn2 zk.bc)).setCell ⟨g + 1 + 1, 4, none⟩ (.slice zk.qA qn2 zk.qc) = w5 at *
    clear d0 d1 d2 d3 d4 e0 e1 e2 e3 e4 y0 y1 y2 y3 y4 x0 x1 x2 x3 x4
    obtain ⟨d0, d1, d2, d3, d4⟩ := box5 HQ.out.b3.y
    obtain ⟨e0, e1, e2, e3, e4⟩ := box5 HQ.out.b3.z
    replace cI := fun w => cI w zp zk
    go_upto_region 4 with (go_at_call 16; refine (cI _).out.mono ?_; rintro e w6 ⟨rfl, hb⟩; replace HQ := Lib.hid (HQ.out.kept hb); replace HP2 := Lib.hid (HP2.out.kept hb); replace HK2 := Lib.hid (HK2.out.kept hb); clear hb d0 d1 d2 d3 d4 e0 e1 e2 e3 e4 cI)
    obtain ⟨d0, d1, d2, d3, d4⟩ := box5 HQ.out.b3.y
    have z2 := fun q : Drift.Tide [] w6 [] => Drift.Tide.cell d2 (by simp) q
    have cA := fun w => Lib.hid (All_any w)
    have HW6 := Lib.hid HQ.out.b3.at_
    clear d0 d1 d2 d3 d4
    refine Drift.wp_region_drift_late [] [(0,[]),(1,[]),(2,[]),(3,[]),(4,[]),(5,[]),(6,[]),(7,[]),(8,[])] [] [8] [7] (by kernel_rfl) (by kernel_rfl) (by simp) ?_
    simp only [Drift.pick, Drift.opsAt, List.getElem?_toArray, List.getElem?_cons_zero, List.getElem?_cons_succ, List.cons_append, List.nil_append, List.filterMap_nil]
    repeat (refine Drift.walk_step (fun K hK => ?_); go_simp; first | (refine hK _ ?_; clear hK K) | (apply Exists.intro; refine ⟨fun q => ?_, hK _ ?_⟩; (first | (go_at_call 18; exact (cA _).out) | (go_at_call 17; exact (cS _ zp (HP2.out.kept q.into.below)).out)); clear hK K))
    refine Drift.walk_clear rfl (.bool true) (fun W => by go_simp) ?_
    refine Drift.walk_make rfl Drift.mkwalk_nil (fun b => .pointer (some ⟨b, 0, none⟩)) (.cells #[.string ⟨#[]⟩, .string ⟨#[]⟩, .bool false] 37) (fun W => by go_simp) (fun gs hgs _ => ?_)
    refine Drift.walk_nil ?_
    intro w7 hb7 hl7
    have hs7 := hl7 (gs, .cells #[.string ⟨#[]⟩, .string ⟨#[]⟩, .bool false] 37) (by simp)
    obtain ⟨s0, s1, s2⟩ := box3 hs7
    have fa0 := free3 hs7 0; have fa1 := free3 hs7 1; have fa2 := free3 hs7 2
    have hs8 := set3_at hs7 (.string lo) (.string hi) (.bool top)
    have hb8 := set3_below hb7 hgs (.string lo) (.string hi) (.bool top)
    replace HQ := Lib.hid (HQ.out.kept hb8)
    replace HP2 := Lib.hid (HP2.out.kept hb8)
    replace HK2 := Lib.hid (HK2.out.kept hb8)
    have HS := Lib.hid hs8
    unfold set3 at HQ HP2 HK2 HS
    clear hb7 hl7 hgs hs7 hs8 hb8 z2 cA cS
    simp only [List.length_cons, List.length_nil, List.drop_succ_cons, List.drop_zero, Nat.zero_add, Nat.reduceAdd]
    go_upto_region 5 with fail
    (try rw [Flow.Nrm_normal])
    clear s0 s1 s2 fa0 fa1 fa2
    generalize ((w7.setCell ⟨gs, 0, none⟩ (.string lo)).setCell ⟨gs, 1, none⟩ (.string hi)).setCell ⟨gs, 2, none⟩ (.bool top) = w8 at *
    obtain ⟨g0, g1, g2, g3, g4, g5, g6, g7⟩ := box8 HQ.out.b3.x
    obtain ⟨d0, d1, d2, d3, d4⟩ := box5 HQ.out.b3.y
    obtain ⟨e0, e1, e2, e3, e4⟩ := box5 HQ.out.b3.z
    obtain ⟨s0, s1, s2⟩ := box3 HS.out
    have tg0 := fun q : Drift.Tide [] w8 [] => Drift.Tide.cell g0 (by simp) q
    have tg1 := fun q : Drift.Tide [] w8 [] => Drift.Tide.cell g1 (by simp) q
    have tg2 := fun q : Drift.Tide [] w8 [] => Drift.Tide.cell g2 (by simp) q
    have tg3 := fun q : Drift.Tide [] w8 [] => Drift.Tide.cell g3 (by simp) q
    have tg4 := fun q : Drift.Tide [] w8 [] => Drift.Tide.cell g4 (by simp) q
    have tg5 := fun q : Drift.Tide [] w8 [] => Drift.Tide.cell g5 (by simp) q
    have tg6 := fun q : Drift.Tide [] w8 [] => Drift.Tide.cell g6 (by simp) q
    have tg7 := fun q : Drift.Tide [] w8 [] => Drift.Tide.cell g7 (by simp) q
    have td0 := fun q : Drift.Tide [] w8 [] => Drift.Tide.cell d0 (by simp) q
    have td1 := fun q : Drift.Tide [] w8 [] => Drift.Tide.cell d1 (by simp) q
    have td2 := fun q : Drift.Tide [] w8 [] => Drift.Tide.cell d2 (by simp) q
    have td3 := fun q : Drift.Tide [] w8 [] => Drift.Tide.cell d3 (by simp) q
    have td4 := fun q : Drift.Tide [] w8 [] => Drift.Tide.cell d4 (by simp) q
    have te0 := fun q : Drift.Tide [] w8 [] => Drift.Tide.cell e0 (by simp) q
    have te1 := fun q : Drift.Tide [] w8 [] => Drift.Tide.cell e1 (by simp) q
    have te2 := fun q : Drift.Tide [] w8 [] => Drift.Tide.cell e2 (by simp) q
    have te3 := fun q : Drift.Tide [] w8 [] => Drift.Tide.cell e3 (by simp) q
    have te4 := fun q : Drift.Tide [] w8 [] => Drift.Tide.cell e4 (by simp) q
    have ts0 := fun q : Drift.Tide [] w8 [] => Drift.Tide.cell s0 (by simp) q
    have ts1 := fun q : Drift.Tide [] w8 [] => Drift.Tide.cell s1 (by simp) q
    have ts2 := fun q : Drift.Tide [] w8 [] => Drift.Tide.cell s2 (by simp) q
    clear g0 g1 g2 g3 g4 g5 g6 g7 d0 d1 d2 d3 d4 e0 e1 e2 e3 e4 s0 s1 s2
    refine Drift.wp_region_drift [] [(0,[]),(1,[]),(2,[]),(3,[]),(4,[]),(5,[]),(6,[]),(7,[]),(8,[]),(9,[]),(10,[]),(11,[]),(12,[])] [7] [] (by kernel_rfl) (by kernel_rfl) (by simp) ?_
    simp only [Drift.pick, Drift.opsAt, List.getElem?_toArray, List.getElem?_cons_zero, List.getElem?_cons_succ, List.cons_append, List.nil_append, List.filterMap_nil]
    repeat (refine Drift.walk_step (fun K hK => ?_); go_simp; first | (refine hK _ ?_; clear hK K) | (apply Exists.intro; refine ⟨fun q => ?_, hK _ ?_⟩; (go_at_call 20; exact (cY _ zk).out); clear hK K))
    refine Drift.walk_event rfl Drift.mkwalk_nil (EvTk t1 t2 T1 T2) (fun W2 hk _ => ?_) (fun v w9 hv hI _ hTd => ?_)
    · go_simp
      go_at_call 19
      refine (cT _ zp (HP2.out.kept hk)).out.mono ?_
      rintro e w' ⟨⟨v, rfl, hv⟩, hb⟩
      exact ⟨_, rfl, hv, Flow.Into.of_below hb⟩
    obtain ⟨A1, c1, A2, c2, rfl, h1, h2⟩ := hv
    replace HQ := Lib.hid (HQ.out.kept hI.below)
    replace HP2 := Lib.hid (HP2.out.kept hI.below)
    replace HK2 := Lib.hid (HK2.out.kept hI.below)
    have HA := Lib.hid h1
    have HB := Lib.hid h2
    clear h1 h2 hI hTd HS cY cT tg0 tg1 tg2 tg3 tg4 tg5 tg6 tg7 td0 td1 td2 td3 td4 te0 te1 te2 te3 te4 ts0 ts1 ts2
    repeat (refine Drift.walk_step (fun K hK => ?_); go_simp; (refine hK _ ?_; clear hK K))
    refine Drift.walk_nil ?_
    intro w10 hb10 _
    replace HQ := Lib.hid (HQ.out.kept hb10)
    replace HP2 := Lib.hid (HP2.out.kept hb10)
    replace HK2 := Lib.hid (HK2.out.kept hb10)
    replace HA := Lib.hid (HA.out.kept hb10)
    replace HB := Lib.hid (HB.out.kept hb10)
    clear hb10
    simp only [List.length_cons, List.length_nil, List.drop_succ_cons, List.drop_nil, Nat.zero_add, Nat.reduceAdd]
    obtain ⟨d0, d1, d2, d3, d4⟩ := box5 HQ.out.b3.y
    have f3 := free5 HQ.out.b3.y 3
    have hi11 := into_one w10 (g + 1) 3 (.slice A2 t2 c2)
    have hby := (IsBox.of HQ.out.b3.y).one
    replace HP2 := Lib.hid (nd_box HP2.out hi11 hby)
    replace HK2 := Lib.hid (nd_box HK2.out hi11 hby)
    replace HA := Lib.hid (rc_box HA.out hi11 hby strange_mg)
    replace HB := Lib.hid (rc_box HB.out hi11 hby strange_mg)
    replace HQ := Lib.hid (HQ.out.y3 (.slice A2 t2 c2))
    clear hi11 hby
    go_upto_region 7 with fail
    clear d0 d1 d2 d3 d4 f3
    generalize w10.setCell ⟨g + 1, 3, none⟩ (.slice A2 t2 c2) = w11 at *
    obtain ⟨m0, m1, m2, m3, m4⟩ := box5 HQ.out.b3.y
    obtain ⟨n0, n1, n2, n3, n4⟩ := box5 HQ.out.b3.z
    have hgm : g + 1 ∉ [g + 1 + 1 + 1, g + 1 + 1 + 1 + 1] := by simp
    have hgn : g + 1 + 1 ∉ [g + 1 + 1 + 1, g + 1 + 1 + 1 + 1] := by simp
    have tm0 := fun q : Drift.Tide [g + 1 + 1 + 1, g + 1 + 1 + 1 + 1] w11 [] => Drift.Tide.cell m0 hgm q
    have tm1 := fun q : Drift.Tide [g + 1 + 1 + 1, g + 1 + 1 + 1 + 1] w11 [] => Drift.Tide.cell m1 hgm q
    have tm2 := fun q : Drift.Tide [g + 1 + 1 + 1, g + 1 + 1 + 1 + 1] w11 [] => Drift.Tide.cell m2 hgm q
    have tm3 := fun q : Drift.Tide [g + 1 + 1 + 1, g + 1 + 1 + 1 + 1] w11 [] => Drift.Tide.cell m3 hgm q
    have tm4 := fun q : Drift.Tide [g + 1 + 1 + 1, g + 1 + 1 + 1 + 1] w11 [] => Drift.Tide.cell m4 hgm q
    have tn0 := fun q : Drift.Tide [g + 1 + 1 + 1, g + 1 + 1 + 1 + 1] w11 [] => Drift.Tide.cell n0 hgn q
    have tn1 := fun q : Drift.Tide [g + 1 + 1 + 1, g + 1 + 1 + 1 + 1] w11 [] => Drift.Tide.cell n1 hgn q
    have tn2 := fun q : Drift.Tide [g + 1 + 1 + 1, g + 1 + 1 + 1 + 1] w11 [] => Drift.Tide.cell n2 hgn q
    have tn3 := fun q : Drift.Tide [g + 1 + 1 + 1, g + 1 + 1 + 1 + 1] w11 [] => Drift.Tide.cell n3 hgn q
    have tn4 := fun q : Drift.Tide [g + 1 + 1 + 1, g + 1 + 1 + 1 + 1] w11 [] => Drift.Tide.cell n4 hgn q
    have hS : ∀ k, k ∈ [g + 1 + 1 + 1, g + 1 + 1 + 1 + 1] → k < w11.heap.size := fun k hk => by
      have h9 := HQ.out.size
      have : k = g + 1 + 1 + 1 ∨ k = g + 1 + 1 + 1 + 1 := by simpa using hk
      omega
    clear m0 m1 m2 m3 m4 n0 n1 n2 n3 n4 hgm hgn
    refine Drift.wp_region_drift [g + 1 + 1 + 1, g + 1 + 1 + 1 + 1] [(0,[]),(1,[]),(2,[]),(4,[]),(5,[]),(3,[]),(6,[]),(7,[]),(8,[])] [3, 6, 7] [] (by kernel_rfl) (by kernel_rfl) hS ?_
    clear hS
    simp only [Drift.pick, Drift.opsAt, List.getElem?_toArray, List.getElem?_cons_zero, List.getElem?_cons_succ, List.cons_append, List.nil_append, List.filterMap_nil]
    repeat (refine Drift.walk_step (fun K hK => ?_); go_simp; (refine hK _ ?_; clear hK K))
    refine Drift.walk_event rfl Drift.mkwalk_nil (EvG (.cells #[.int .i64 0, .slice none 0 0, .slice none 0 0, .slice none 0 0, .slice none 0 0] 29) (.cells #[.int .i64 0, .slice none 0 0, .slice none 0 0, .slice none 0 0, .slice none 0 0] 29) (g + 1 + 1 + 1) (g + 1 + 1 + 1 + 1) xl xk xp xb xq X) (fun W2 hk _ => ?_) (fun v w12 hv hI _ hTd => ?_)
    · go_simp
      go_at_call 21
      refine (cG W2 A1 c1 zk (HA.out.kept hk) (HK2.out.kept hk)).out.mono ?_
      rintro e w' ⟨⟨v, rfl, hv⟩, hb⟩
      exact ⟨_, rfl, ⟨hv, kept3 (HQ.out.kept hk).m hb, kept3 (HQ.out.kept hk).n hb⟩, Flow.Into.of_below hb⟩
    obtain ⟨⟨zx, rfl, hzx⟩, hbm, hbn⟩ := hv
    have HX := Lib.hid hzx
    have HM := Lib.hid hbm
    have HN := Lib.hid hbn
    have HI0 := Lib.hid hI
    clear hI hTd hzx hbm hbn cG
    refine Drift.walk_event rfl Drift.mkwalk_nil (EvFill w12 (g + 1 + 1 + 1) #[.int .i64 lv, .slice zp.kA kn zp.kc, .slice zp.pA pn zp.pc, .slice A2 t2 c2, .slice zp.qA qn zp.qc]) (fun W2 hk _ => ?_) (fun v w20 hv hI _ hTd => ?_)
    · have hy := kept3 HM.out hk
      obtain ⟨s0, s1, s2, s3, s4⟩ := box5 hy
      have y0 := free5 hy 0; have y1 := free5 hy 1; have y2 := free5 hy 2; have y3 := free5 hy 3; have y4 := free5 hy 4
      have hs5 := set5_at hy (.int .i64 lv) (.slice zp.kA kn zp.kc) (.slice zp.pA pn zp.pc) (.slice A2 t2 c2) (.slice zp.qA qn zp.qc)
      have hi5 := into_set5 W2 (g + 1 + 1 + 1) (.int .i64 lv) (.slice zp.kA kn zp.kc) (.slice zp.pA pn zp.pc) (.slice A2 t2 c2) (.slice zp.qA qn zp.qc)
      unfold set5 at hs5 hi5
      have HS5 := Lib.hid hs5
      have HI4 := Lib.hid hi5
      have HI5 : Hid (Flow.Into [g + 1 + 1 + 1] w12 _) := (Flow.Into.of_below hk).trans hi5
      clear hs5 hi5 hy
      go_simp
      exact ⟨⟨rfl, HS5.out, HI5.out⟩, into_wide HI4.out (by simp)⟩
    obtain ⟨rfl, av, ai⟩ := hv
    clear hI hTd
    have HZ : Hid (w20.heap[g + 1 + 1 + 1 + 1]? = some (.cells #[.int .i64 0, .slice none 0 0, .slice none 0 0, .slice none 0 0, .slice none 0 0] 29)) := (ai.block (g + 1 + 1 + 1 + 1) (Array.getElem?_eq_some_iff.1 HN.out).1 (by simp)).trans HN.out
    refine Drift.walk_event rfl Drift.mkwalk_nil (EvFill w20 (g + 1 + 1 + 1 + 1) #[.int .i64 xl, .slice zx.kA xk zx.kc, .slice zx.pA xp zx.pc, .slice zx.bA xb zx.bc, .slice zx.qA xq zx.qc]) (fun W2 hk _ => ?_) (fun v w21 hv hI _ hTd => ?_)
    · have hy := kept3 HZ.out hk
      obtain ⟨s0, s1, s2, s3, s4⟩ := box5 hy
      have y0 := free5 hy 0; have y1 := free5 hy 1; have y2 := free5 hy 2; have y3 := free5 hy 3; have y4 := free5 hy 4
      have hs5 := set5_at hy (.int .i64 xl) (.slice zx.kA xk zx.kc) (.slice zx.pA xp zx.pc) (.slice zx.bA xb zx.bc) (.slice zx.qA xq zx.qc)
      have hi5 := into_set5 W2 (g + 1 + 1 + 1 + 1) (.int .i64 xl) (.slice zx.kA xk zx.kc) (.slice zx.pA xp zx.pc) (.slice zx.bA xb zx.bc) (.slice zx.qA xq zx.qc)
      unfold set5 at hs5 hi5
      have HS5 := Lib.hid hs5
      have HI4 := Lib.hid hi5
      have HI5 : Hid (Flow.Into [g + 1 + 1 + 1 + 1] w20 _) := (Flow.Into.of_below hk).trans hi5
      clear hs5 hi5 hy
      go_simp
      exact ⟨⟨rfl, HS5.out, HI5.out⟩, into_wide HI4.out (by simp)⟩
    obtain ⟨rfl, bv, bi⟩ := hv
    clear hI hTd
    repeat (refine Drift.walk_step (fun K hK => ?_); go_simp; (refine hK _ ?_; clear hK K))
    refine Drift.walk_nil ?_
    intro w22 hb22 _
    have HI1 : Hid (Flow.Into [g + 1 + 1 + 1, g + 1 + 1 + 1 + 1] w12 w22) := ((into_wide ai (by simp)).trans (into_wide bi (by simp))).trans (Flow.Into.of_below hb22)
    have HI : Hid (Flow.Into [g + 1 + 1 + 1, g + 1 + 1 + 1 + 1] w11 w22) := HI0.out.trans HI1.out
    have hy1 := (bi.block (g + 1 + 1 + 1) (Array.getElem?_eq_some_iff.1 av).1 (by simp)).trans av
    obtain ⟨s0, s1, s2, s3, s4⟩ := box5 (kept3 hy1 hb22)
    obtain ⟨u0, u1, u2, u3, u4⟩ := box5 (kept3 bv hb22)
    have HBW : Hid (Below W.heap.size W w22) := below_fill HQ.out.b3.below HI.out (fun k hk => by
      have h9 := HQ.out.b3.at_
      have : k = g + 1 + 1 + 1 ∨ k = g + 1 + 1 + 1 + 1 := by simpa using hk
      omega) HQ.out.b3.below.size
    have HB2 := (IsBox.of HQ.out.m).two (IsBox.of HQ.out.n)
    have HB3 := (IsBox.of HM.out).two (IsBox.of HN.out)
    have HF := Lib.hid (HE.out (nd_box HP2.out HI.out HB2) (rc_box HB.out HI.out HB2 strange_mg) (nd_box HX.out HI1.out HB3))
    clear av bv ai bi hy1 hb22 HZ HI HI0 HI1 HB2 HB3 HE HQ HP2 HK2 HA HB HX HM HN tm0 tm1 tm2 tm3 tm4 tn0 tn1 tn2 tn3 tn4
    simp only [List.length_cons, List.length_nil, List.drop_succ_cons, List.drop_nil, Nat.zero_add, Nat.reduceAdd]
    go_wp2_with fail
    exact bodyPost_ret (v := .tuple #[.agg #[.int .i64 lv, .slice zp.kA kn zp.kc, .slice zp.pA pn zp.pc, .slice A2 t2 c2, .slice zp.qA qn zp.qc], .agg #[.int .i64 xl, .slice zx.kA xk zx.kc, .slice zx.pA xp zx.pc, .slice zx.bA xb zx.bc, .slice zx.qA xq zx.qc], .int .i64 t1]) (by simp [results, Try.results7, go_sem, s0, s1, s2, s3, s4, u0, u1, u2, u3, u4]) rfl ⟨⟨_, rfl, HF.out⟩, HBW.out⟩
end No
end Go.Proofs.Ytlabbmfiecbigaa
