/-
  node's laws: NodeLoads.
-/
import Derived.Test.YtlcdjbleeanpbaaNodeO
import Derived.Test.YtlcdjbleeanpbaaIntMap
namespace Go.Proofs.Ytlcdjbleeanpbaa
open Go.RowKit
namespace No
open Mem Lx Bu Lf Fa IMap
def EvR (m : Nat) (R : List Nat → Prop) (v : Value) (w : World) : Prop := ∃ (r : List Nat) (A : Option Addr) (c : Nat), v = .slice A m c ∧ R r ∧ IL w A (r.map fun i : Nat => (i : Int))
theorem below_into {W w w' : World} {m : Nat} (h : Below W.heap.size W w) (hI : Flow.Into [m] w w') (hm : W.heap.size ≤ m) : Below W.heap.size W w' :=
  ⟨hI.os.trans h.os, hI.tape.trans h.tape, hI.output.trans h.output, Nat.le_trans h.size hI.size, fun b hb => (hI.block b (Nat.lt_of_lt_of_le hb h.size) (by simp; omega)).trans (h.block b hb)⟩
set_option maxRecDepth 100000 in
set_option maxHeartbeats 16000000 in
theorem NodeLoads_walk (n : Nd) (a : At) (W : World) (h : NdIn W n a) (hok : NdOk n) : Calls Try.prog 5 #[.agg (ndCs n a)] W fun e w' => e = .returned (.bool true) ∧ Below W.heap.size W w' := by
  obtain ⟨gb, hgb⟩ := bool_of (¬ Fit n)
  have cG : ∀ w, Below W.heap.size W w → Hid (Calls Try.prog 7 #[.agg (ndCs n a)] w fun e w' => e = .returned (.bool gb) ∧ Below w.heap.size w w') := fun w hb => (Great_any (h.kept hb) hok).mono fun e w' ⟨⟨v, he, hv⟩, hb⟩ => ⟨by
    rw [he]
    cases v <;> cases gb <;> simp_all, hb⟩
  have HGB : Hid (gb = false → Fit n) := fun e => Classical.not_not.1 fun hn => by
    rw [hgb.2 hn] at e
    cases e
  obtain ⟨pb, hpb⟩ := bool_of (PlainN n)
  have cP : Fit n → ∀ w, Below W.heap.size W w → Hid (Calls Try.prog 16 #[.agg (ndCs n a)] w fun e w' => e = .returned (.bool pb) ∧ Below w.heap.size w w') := fun f w hb => (RPlain_any (h.kept hb) f.sz).mono fun e w' ⟨⟨v, he, hv⟩, hb⟩ => ⟨by rw [he, bool_one hv hpb], hb⟩
  have HPB : Hid (pb = true → PlainN n) := hpb.1
  have cL : Fit n → PlainN n → ∀ w, Below W.heap.size W w → Hid (Calls Try.prog 17 #[.agg (ndCs n a)] w fun e w' => (∃ A c, e = .returned (.slice A n.kids.length c) ∧ IL w' A (loadsN n)) ∧ Below w.heap.size w w') := fun f p w hb => Loads_any (h.kept hb) f p
  have cH : Fit n → PlainN n → ∀ w, Below W.heap.size W w → Hid (Calls Try.prog 19 #[.agg (ndCs n a)] w fun e w' => e = .returned (.tuple #[.int .i64 (heavN (ldN n) n.kids.length : Int), .int .i64 (ldN n (heavN (ldN n) n.kids.length) : Int)]) ∧ Below w.heap.size w w') := fun f p w hb => Heaviest_any (h.kept hb) f p

  have cR : Fit n → PlainN n → ∀ w, Below W.heap.size W w → Hid (Calls Try.prog 18 #[.agg (ndCs n a)] w fun e w' => (∃ (r : List Nat) (A : Option Addr) (c : Nat), e = .returned (.slice A n.kids.length c) ∧ RankN n r ∧ IL w' A (r.map fun i : Nat => (i : Int))) ∧ Below w.heap.size w w') := fun f p w hb => Rank_any (h.kept hb) f p
  have cI : Fit n → PlainN n → ∀ w, Below W.heap.size W w → Hid (Calls Try.prog 20 #[.agg (ndCs n a)] w fun e w' => e = .returned (.tuple #[.int .i64 (heavN (ldN n) n.kids.length : Int), .int .i64 (ldN n (heavN (ldN n) n.kids.length) : Int)]) ∧ Below w.heap.size w w') := fun f p w hb => by
    have := RHeaviest_any (h.kept hb) f.sz
    rw [if_neg (by have := p.2.2; omega)] at this
    exact this
  have cD : Fit n → ∀ w, Below W.heap.size W w → ∀ k : Nat, Hid (Calls Try.prog 21 #[.agg (ndCs n a), .int .i64 (k : Int)] w fun e w' => e = .returned (.int .i64 (ldN n k : Int)) ∧ Below w.heap.size w w') := fun f w hb k => RLoad_any (h.kept hb) (k : Int) f.sz.piv (Nat.le_trans f.piv (by decide)) (Nat.le_trans f.buf (by decide))
  have cA : Fit n → ∀ w, Below W.heap.size W w → ∀ i k : Nat, aheadN (ldN n) i k = true → Hid (Calls Try.prog 22 #[.agg (ndCs n a), .int .i64 (i : Int), .int .i64 (k : Int)] w fun e w' => e = .returned (.bool true) ∧ Below w.heap.size w w') := fun f w hb i k hik => by
    have := RAhead_any (h.kept hb) f.sz i k
    rw [hik] at this
    exact this
  have HON : Hid (PlainN n → 1 ≤ n.kids.length) := fun p => by have := p.2.2; omega
  have HLA : Hid (∀ i, i < n.kids.length → (loadsN n)[i]? = some (ldN n i : Int)) := fun i hi => by
    rw [List.getElem?_eq_getElem (by rw [loadsN_len]; exact hi), loadsN_at]
  have HLE : Hid ((loadsN n).length = n.kids.length) := loadsN_len n
  have HFI : Hid (∀ (r : List Nat) (x : Nat), RankN n r → r[0]? = some x → x = heavN (ldN n) n.kids.length) := fun r x hr hx => hr.first hx
  have HLT : Hid (∀ (r : List Nat) (i : Nat), RankN n r → i ∈ r → i < n.kids.length) := fun r i hr hi => hr.lt hi
  have HRL : Hid (∀ (r : List Nat), RankN n r → r.length = n.kids.length) := fun r hr => hr.len
  have HRA : Hid (∀ (r : List Nat), RankN n r → r.Pairwise fun i k => aheadN (ldN n) i k = true) := fun r hr => hr.ahead
  generalize hlds : loadsN n = ls at *
  generalize hldf : ldN n = f at *
  obtain ⟨R, hR⟩ : ∃ R : List Nat → Prop, R = fun r => RankN n r := ⟨_, rfl⟩
  have HND : Hid (∀ r, R r → r.Nodup) := fun r hr => by
    rw [hR] at hr
    exact RankN.nodup hr
  have hRr : ∀ r, RankN n r = R r := fun r => by rw [hR]
  simp only [hRr] at *
  clear h hok hgb hpb hlds hldf hR hRr
  have hk80 : gb = false → n.kids.length ≤ 80 := fun e => (HGB.out e).kids
  obtain ⟨F, hF⟩ : ∃ F : Prop, F = Fit n := ⟨_, rfl⟩
  obtain ⟨PN, hPN⟩ : ∃ PN : Prop, PN = PlainN n := ⟨_, rfl⟩
  rw [← hF] at HGB
  rw [← hPN] at HPB HON
  simp only [← hF, ← hPN] at cP cL cH cR cI cD cA
  clear hF hPN
  obtain ⟨lv, K, L, B, Q⟩ := n
  obtain ⟨kA, kc, pA, pc, bA, bc, qA, qc⟩ := a
  unfold ndCs at *
  simp only at *
  generalize K.length = kn at *
  generalize L.length = pn at *
  generalize B.length = bn at *
  generalize Q.length = qn at *
  generalize heavN f kn = hv at *
  generalize hfv : f hv = fv at cH cI
  clear hfv
  go_enter Try.func5, Try.ntmps5
  go_upto_region 1 with fail
  have hx := heap_alloc_new W (.cells #[.int .i64 lv, .slice kA kn kc, .slice pA pn pc, .slice bA bn bc, .slice qA qn qc] 31)
  have hb0 : Below W.heap.size W (W.alloc (.cells #[.int .i64 lv, .slice kA kn kc, .slice pA pn pc, .slice bA bn bc, .slice qA qn qc] 31)) := (Below.refl _ _).alloc (Nat.le_refl _) _
  generalize W.alloc (.cells #[.int .i64 lv, .slice kA kn kc, .slice pA pn pc, .slice bA bn bc, .slice qA qn qc] 31) = w1 at *
  have HW := Lib.hid hb0
  obtain ⟨g, hg⟩ : ∃ g, g = W.heap.size := ⟨_, rfl⟩
  simp only [← hg]
  rw [← hg] at hx
  have HX := Lib.hid hx
  obtain ⟨d0, d1, d2, d3, d4⟩ := box5 hx
  have HG := Lib.hid hg
  clear hx hb0 hg
  cases gb with
  | true =>
    clear cP cL cR cH cI cD cA
    go_wp2_with (first | (go_at_call 7; refine (cG _ HW.out).out.mono ?_; rintro e w2 ⟨rfl, hb⟩; clear cG; replace HW := Lib.hid (HW.out.trans (hb.mono HW.out.size)); replace HX := Lib.hid (kept3 HX.out hb); clear hb d0 d1 d2 d3 d4; obtain ⟨d0, d1, d2, d3, d4⟩ := box5 HX.out) | (go_at_call 8; refine (awake_any _).mono ?_; rintro e w3 ⟨rfl, hb⟩; have HBF := Lib.hid (HW.out.trans (hb.mono HW.out.size))))
    go_ret
    exact ⟨rfl, HBF.out⟩
  | false =>
  replace cP := cP (HGB.out rfl)
  replace hk80 := hk80 rfl
  cases pb with
  | false =>
    clear cL cR cH cI cD cA
    go_wp2_with (first | (go_at_call 7; refine (cG _ HW.out).out.mono ?_; rintro e w2 ⟨rfl, hb⟩; clear cG; replace HW := Lib.hid (HW.out.trans (hb.mono HW.out.size)); replace HX := Lib.hid (kept3 HX.out hb); clear hb d0 d1 d2 d3 d4; obtain ⟨d0, d1, d2, d3, d4⟩ := box5 HX.out) | (go_at_call 16; refine (cP _ HW.out).out.mono ?_; rintro e w3 ⟨rfl, hb⟩; clear cP; replace HW := Lib.hid (HW.out.trans (hb.mono HW.out.size)); replace HX := Lib.hid (kept3 HX.out hb); clear hb d0 d1 d2 d3 d4; obtain ⟨d0, d1, d2, d3, d4⟩ := box5 HX.out) | (go_at_call 8; refine (awake_any _).mono ?_; rintro e w3 ⟨rfl, hb⟩; have HBF := Lib.hid (HW.out.trans (hb.mono HW.out.size))))
    go_ret
    exact ⟨rfl, HBF.out⟩
  | true =>
  replace cL := cL (HGB.out rfl) (HPB.out rfl)
  replace cR := cR (HGB.out rfl) (HPB.out rfl)
  replace cH := cH (HGB.out rfl) (HPB.out rfl)
  replace cI := cI (HGB.out rfl) (HPB.out rfl)
  replace cD := cD (HGB.out rfl)
  replace cA := cA (HGB.out rfl)
  have hk1 := HON.out (HPB.out rfl)
  clear HGB HPB HON
  go_upto_region 3 with (first | (go_at_call 7; refine (cG _ HW.out).out.mono ?_; rintro e w2 ⟨rfl, hb⟩; clear cG; replace HW := Lib.hid (HW.out.trans (hb.mono HW.out.size)); replace HX := Lib.hid (kept3 HX.out hb); clear hb d0 d1 d2 d3 d4; obtain ⟨d0, d1, d2, d3, d4⟩ := box5 HX.out) | (go_at_call 16; refine (cP _ HW.out).out.mono ?_; rintro e w3 ⟨rfl, hb⟩; clear cP; replace HW := Lib.hid (HW.out.trans (hb.mono HW.out.size)); replace HX := Lib.hid (kept3 HX.out hb); clear hb d0 d1 d2 d3 d4; obtain ⟨d0, d1, d2, d3, d4⟩ := box5 HX.out))
  have z0 := fun q : Drift.Tide [] w3 [] => Drift.Tide.cell d0 (by simp) q
  have z1 := fun q : Drift.Tide [] w3 [] => Drift.Tide.cell d1 (by simp) q
  have z2 := fun q : Drift.Tide [] w3 [] => Drift.Tide.cell d2 (by simp) q
  have z3 := fun q : Drift.Tide [] w3 [] => Drift.Tide.cell d3 (by simp) q
  have z4 := fun q : Drift.Tide [] w3 [] => Drift.Tide.cell d4 (by simp) q
  clear d0 d1 d2 d3 d4
  refine Drift.wp_region_drift [] [(0,[]),(2,[]),(1,[]),(3,[]),(4,[]),(5,[])] [1, 3] [] (by kernel_rfl) (by kernel_rfl) (by simp) ?_
  simp only [Drift.pick, Drift.opsAt, List.getElem?_toArray, List.getElem?_cons_zero, List.getElem?_cons_succ, List.cons_append, List.nil_append, List.filterMap_nil]
  repeat (refine Drift.walk_step (fun K hK => ?_); go_simp; (refine hK _ ?_; clear hK K))
  refine Drift.walk_event rfl Drift.mkwalk_nil (EvInts kn ls) (fun W2 hk _ => ?_) (fun v w5 hv hI _ hTd => ?_)
  · go_simp
    go_at_call 17
    refine (cL W2 (HW.out.trans (hk.mono HW.out.size))).out.mono ?_
    rintro e w' ⟨⟨A1, c1, rfl, h1⟩, hb⟩
    exact ⟨_, rfl, ⟨A1, c1, rfl, h1⟩, Flow.Into.of_below hb⟩
  obtain ⟨A1, c1, rfl, h1⟩ := hv
  have HP1 := Lib.hid h1
  have HB5 : Hid (Below w3.heap.size w3 w5) := hI.below
  clear h1 hI hTd
  refine Drift.walk_event rfl Drift.mkwalk_nil (EvR kn R) (fun W2 hk _ => ?_) (fun v w6 hv hI _ hTd => ?_)
  · go_simp
    go_at_call 18
    refine (cR W2 (HW.out.trans ((HB5.out.trans (hk.mono HB5.out.size)).mono HW.out.size))).out.mono ?_
    rintro e w' ⟨⟨r, A1, c1, rfl, h1, h2⟩, hb⟩
    exact ⟨_, rfl, ⟨r, A1, c1, rfl, h1, h2⟩, Flow.Into.of_below hb⟩
  obtain ⟨r, A2, c2, rfl, hr, h2⟩ := hv
  have HP2 := Lib.hid h2
  have HP1' := Lib.hid (HP1.out.below hI.below)
  have HB6 : Hid (Below w3.heap.size w3 w6) := HB5.out.trans (hI.below.mono HB5.out.size)
  clear h2 hI HP1 HB5
  repeat (refine Drift.walk_step (fun K hK => ?_); go_simp; (refine hK _ ?_; clear hK K))
  refine Drift.walk_nil ?_
  intro w7 hb7 _
  have HB7 : Hid (Below w3.heap.size w3 w7) := HB6.out.trans (hb7.mono HB6.out.size)
  have HL := Lib.hid (HP1'.out.below hb7)
  have HM := Lib.hid (HP2.out.below hb7)
  replace HX := Lib.hid (kept3 HX.out HB7.out)
  replace HW := Lib.hid (HW.out.trans (HB7.out.mono HW.out.size))
  have HRL2 : Hid (r.length = kn) := HRL.out r hr
  have HND2 : Hid r.Nodup := HND.out r hr
  have HLT2 : Hid (∀ i, i ∈ r → i < kn) := fun i hi => HLT.out r i hr hi
  have HRA2 : Hid (r.Pairwise fun i k => aheadN f i k = true) := HRA.out r hr
  obtain ⟨x0, hx0⟩ : ∃ x0, r[0]? = some x0 := ⟨r[0]'(by rw [HRL2.out]; omega), List.getElem?_eq_getElem _⟩
  obtain rfl : x0 = hv := HFI.out r x0 hr hx0
  clear z0 z1 z2 z3 z4 HP1' HP2 HB6 HB7 hTd hb7 cL cR hr HRL HND HLT HRA HFI
  simp only [List.length_cons, List.length_nil, List.drop_succ_cons, List.drop_nil, Nat.zero_add, Nat.reduceAdd]
  obtain ⟨d0, d1, d2, d3, d4⟩ := box5 HX.out
  go_upto_region 5 with (go_at_call 19; refine (cH _ HW.out).out.mono ?_; rintro e w8 ⟨rfl, hb⟩; replace HL := Lib.hid (HL.out.below hb); replace HM := Lib.hid (HM.out.below hb); replace HW := Lib.hid (HW.out.trans (hb.mono HW.out.size)); replace HX := Lib.hid (kept3 HX.out hb); clear hb d0 d1 d2 d3 d4; obtain ⟨d0, d1, d2, d3, d4⟩ := box5 HX.out)
  go_upto_region 6 with (go_at_call 20; refine (cI _ HW.out).out.mono ?_; rintro e w9 ⟨rfl, hb⟩; replace HL := Lib.hid (HL.out.below hb); replace HM := Lib.hid (HM.out.below hb); replace HW := Lib.hid (HW.out.trans (hb.mono HW.out.size)); replace HX := Lib.hid (kept3 HX.out hb); clear hb d0 d1 d2 d3 d4; obtain ⟨d0, d1, d2, d3, d4⟩ := box5 HX.out)
  clear cH cI
  obtain ⟨b1, o1, e1, -⟩ := HL.out.at_ (i := 0) (by rw [HLE.out]; omega)
  subst e1
  obtain ⟨b2, o2, e2, y0⟩ := HM.out.at_ (i := 0) (by rw [List.length_map, HRL2.out]; omega)
  subst e2
  have hb1 := HL.out.lt (by rw [HLE.out]; omega) _ rfl
  have hb2 := HM.out.lt (by rw [List.length_map, HRL2.out]; omega) _ rfl
  have y0' : w9.cell? ⟨b2, o2, none⟩ = some (.int .i64 (x0 : Int)) := by
    rw [Nat.add_zero] at y0
    rw [y0]
    have : (r.map fun i : Nat => (i : Int))[0]? = some (x0 : Int) := by rw [List.getElem?_map, hx0]; rfl
    rw [List.getElem?_eq_getElem (by rw [List.length_map, HRL2.out]; omega)] at this
    rw [Option.some.inj this]
  clear y0 hx0
  have t1 : ((kn : Int) != (kn : Int)) = false := bne_self_eq_false _
  have t2 : ((x0 : Int) != (x0 : Int)) = false := bne_self_eq_false _
  have t3 : ((fv : Int) != (fv : Int)) = false := bne_self_eq_false _
  have hkp : (0 : Int) < (kn : Int) := by omega
  have hkq : 0 < kn := by omega
  have hmm := @run_makeMap Try.prog
  go_upto_region 9 with fail

  have hbm : Below w9.heap.size w9 (w9.alloc (.map #[] 0)) := (Below.refl _ _).alloc (Nat.le_refl _) _
  have HMI : Hid (MI (w9.alloc (.map #[] 0)) w9.heap.size 0 []) := MI.made w9
  replace HL := Lib.hid (HL.out.below hbm)
  replace HM := Lib.hid (HM.out.below hbm)
  have hgm : g < w9.heap.size := (Array.getElem?_eq_some_iff.1 HX.out).1
  have hWm : W.heap.size ≤ w9.heap.size := HW.out.size
  replace HX := Lib.hid (kept3 HX.out hbm)
  replace HW := Lib.hid (HW.out.trans (hbm.mono HW.out.size))
  clear hbm y0' t1 t2 t3 hmm d0 d1 d2 d3 d4
  simp only at hb1 hb2
  generalize w9.alloc (.map #[] 0) = w10 at *
  generalize w9.heap.size = m at *
  have hnl : ∀ a, some (⟨b1, o1, none⟩ : Addr) = some a → a.block ∉ [m] := fun a ha => by
    cases ha
    simp only [List.mem_singleton]
    omega
  have hnr : ∀ a, some (⟨b2, o2, none⟩ : Addr) = some a → a.block ∉ [m] := fun a ha => by
    cases ha
    simp only [List.mem_singleton]
    omega
  go_upto_block 0 with fail
  go_cut [] (fun wx => Hid (Below W.heap.size W wx))
  case first =>
    go_wp2_with fail
    go_loopg [10] kn (fun gk iv wr => ∃ k : Nat, k ≤ kn ∧ gk = kn - k ∧ iv = .int .i64 (k : Int) ∧ Hid (∃ ks : List Int, MI wr m k ks ∧ ∀ i : Nat, ks.contains (i : Int) = (r.take k).contains i) ∧ Hid (IL wr (some ⟨b1, o1, none⟩) ls ∧ IL wr (some ⟨b2, o2, none⟩) (r.map fun i : Nat => (i : Int)) ∧ Below W.heap.size W wr ∧ wr.heap[g]? = some (.cells #[.int .i64 lv, .slice kA kn kc, .slice pA pn pc, .slice bA bn bc, .slice qA qn qc] 31 (0, 0))))
    case atStart => exact ⟨0, Nat.zero_le _, rfl, rfl, ⟨[], HMI.out, fun i => rfl⟩, HL.out, HM.out, HW.out, HX.out⟩
    case round =>
      clear HMI HL HM HW HX
      obtain ⟨k, hk, rfl, rfl, HMI, HC⟩ := hrel
      by_cases hlt : k < kn
      · obtain ⟨ks, hmi, hks⟩ := HMI.out
        obtain ⟨d0, d1, d2, d3, d4⟩ := box5 HC.out.2.2.2
        have hrl : k < r.length := by rw [HRL2.out]; exact hlt
        obtain ⟨x, hx⟩ : ∃ x, r[k]? = some x := ⟨r[k], List.getElem?_eq_getElem hrl⟩
        have hxr : r[k] = x := (List.getElem?_eq_some_iff.1 hx).2
        have hxk : x < kn := HLT2.out x (List.mem_of_getElem? hx)
        have hfx : Fits (x : Int) := ⟨by omega, by omega⟩
        have hns : ks.contains (x : Int) = false := by
          rw [hks]
          have hnd := HND2.out
          rw [← List.take_append_drop k r, List.drop_eq_getElem_cons hrl, List.nodup_append] at hnd
          have h3 : x ∉ r.take k := fun hm => hnd.2.2 x hm x (by rw [hxr]; exact List.mem_cons_self) rfl
          simpa using h3
        have hl1 := fun q : Drift.Tide [] wr [] => (hmi.keep (q.into.block m hmi.lt (by simp))).look hfx
        rw [hns] at hl1
        obtain ⟨b1', o1', e1, c0⟩ := HC.out.1.at_ (i := k) (by rw [HLE.out]; exact hlt)
        obtain ⟨rfl, rfl⟩ : b1 = b1' ∧ o1 = o1' := by simpa using e1
        obtain ⟨b2', o2', e2, c1⟩ := HC.out.2.1.at_ (i := k) (by rw [List.length_map]; exact hrl)
        obtain ⟨rfl, rfl⟩ : b2 = b2' ∧ o2 = o2' := by simpa using e2
        have hlk : ls[k]'(by rw [HLE.out]; exact hlt) = (f k : Int) := by
          have := HLA.out k hlt
          rw [List.getElem?_eq_getElem (by rw [HLE.out]; exact hlt)] at this
          exact Option.some.inj this
        rw [hlk] at c0
        rw [List.getElem_map, hxr] at c1
        have HNX : Hid (∀ i : Nat, ((x : Int) :: ks).contains (i : Int) = (r.take (k + 1)).contains i) := fun i => by
          rw [List.take_succ_eq_append_getElem hrl, hxr, List.contains_cons, hks, List.contains_eq_mem, List.contains_eq_mem]
          rw [Bool.eq_iff_iff]
          simp only [Bool.or_eq_true, beq_iff_eq, decide_eq_true_eq, List.mem_append, List.mem_singleton]
          rw [show ((i : Int) = (x : Int)) ↔ i = x by omega, or_comm]
        have HMI1 := Lib.hid hmi
        have cX := fun (w : World) (hb : Below W.heap.size W w) => cD w hb k
        have HWB : Hid (Below W.heap.size W wr) := HC.out.2.2.1
        generalize f k = fk at *
        have hw2 : IntKind.i64.wrap ((k : Int) + 1) = ((k + 1 : Nat) : Int) := by rw [IntKind.wrap_i64]; omega
        have u1 : ((fk : Int) != (fk : Int)) = false := bne_self_eq_false _
        have u2 : decide ((x : Int) < 0) = false := by simp
        have u3 : decide ((kn : Int) ≤ (x : Int)) = false := by simp; omega
        have c0' := fun q : Drift.Tide [] wr [] => Drift.Tide.cell c0 (by simp) q
        have c1' := fun q : Drift.Tide [] wr [] => Drift.Tide.cell c1 (by simp) q
        have d0' := fun q : Drift.Tide [] wr [] => Drift.Tide.cell d0 (by simp) q
        have d1' := fun q : Drift.Tide [] wr [] => Drift.Tide.cell d1 (by simp) q
        have d2' := fun q : Drift.Tide [] wr [] => Drift.Tide.cell d2 (by simp) q
        have d3' := fun q : Drift.Tide [] wr [] => Drift.Tide.cell d3 (by simp) q
        have d4' := fun q : Drift.Tide [] wr [] => Drift.Tide.cell d4 (by simp) q
        have HFX := Lib.hid hfx
        have HXK := Lib.hid (show (x : Int) < (kn : Int) by omega)
        clear hmi hks hns hxr hlk e1 e2 HMI hfx
        go_upto_region 12 with fail
        go_cut [124] (fun tv wx => tv = .bool false ∧ Hid (Below wr.heap.size wr wx))
        case first =>
          rcases Nat.eq_zero_or_pos k with rfl | h0
          · clear cA hx hrl
            simp only [Nat.add_zero] at c0' c1'
            refine Drift.wp_region_drift [] [(0,[]),(1,[]),(2,[]),(3,[]),(4,[]),(5,[]),(6,[]),(7,[]),(8,[]),(9,[]),(10,[]),(11,[]),(12,[]),(13,[]),(14,[]),(15,[]),(16,[]),(17,[]),(18,[]),(19,[]),(20,[]),(21,[]),(22,[]),(23,[]),(24,[]),(25,[]),(26,[]),(27,[]),(28,[]),(29,[]),(30,[]),(31,[]),(32,[]),(33,[]),(34,[]),(35,[]),(36,[]),(37,[]),(38,[]),(39,[]),(40,[]),(41,[]),(42,[]),(43,[]),(44,[]),(45,[]),(46,[]),(47,[]),(48,[]),(49,[])] [] [] (by kernel_rfl) (by kernel_rfl) (by simp) ?_
            simp only [Drift.pick, Drift.opsAt, List.getElem?_toArray, List.getElem?_cons_zero, List.getElem?_cons_succ, List.cons_append, List.nil_append, List.filterMap_nil]
            iterate 6 (refine Drift.walk_step (fun K hK => ?_); go_simp; refine hK _ ?_; clear hK K)
            refine Drift.walk_step (fun K hK => ?_); go_simp; apply Exists.intro; refine ⟨fun q => ?_, hK _ ?_⟩; (go_at_call 21; exact (cX _ (HWB.out.trans (q.into.below.mono HWB.out.size))).out); clear hK K
            iterate 43 (refine Drift.walk_step (fun K hK => ?_); go_simp; refine hK _ ?_; clear hK K)
            refine Drift.walk_nil ?_
            intro w11 hb11 _
            have HBB := Lib.hid hb11
            clear hb11
            simp only [List.length_cons, List.length_nil, List.drop_succ_cons, List.drop_nil, Nat.zero_add, Nat.reduceAdd]
            go_wp2_with fail
            go_meet
            exact ⟨congrArg Value.bool (decide_eq_false (by omega)), HBB⟩
          · obtain ⟨j, hj⟩ : ∃ j, k = j + 1 := ⟨k - 1, by omega⟩
            obtain ⟨y, hy⟩ : ∃ y, r[j]? = some y := ⟨r[j]'(by omega), List.getElem?_eq_getElem _⟩
            obtain ⟨b2', o2', e2, c2⟩ := HC.out.2.1.at_ (i := j) (by rw [List.length_map]; omega)
            obtain ⟨rfl, rfl⟩ : b2 = b2' ∧ o2 = o2' := by simpa using e2
            rw [List.getElem_map, (List.getElem?_eq_some_iff.1 hy).2] at c2
            have hyx : aheadN f y x = true := by
              have := List.pairwise_iff_getElem.1 HRA2.out j k (by omega) hrl (by omega)
              rw [(List.getElem?_eq_some_iff.1 hy).2, (List.getElem?_eq_some_iff.1 hx).2] at this
              exact this
            have cB := fun (w : World) (hb : Below W.heap.size W w) => cA w hb y x hyx
            have hw1 : IntKind.i64.wrap ((k : Int) - 1) = (j : Int) := by rw [IntKind.wrap_i64]; omega
            have hjk : j < kn := by omega
            have hk0 : (0 : Int) < (k : Int) := by omega
            have c2' := fun q : Drift.Tide [] wr [] => Drift.Tide.cell c2 (by simp) q
            clear cA hx hrl hyx hy e2 c2 hj
            refine Drift.wp_region_drift [] [(0,[]),(1,[]),(2,[]),(3,[]),(4,[]),(5,[]),(6,[]),(7,[]),(8,[]),(9,[]),(10,[]),(11,[]),(12,[]),(13,[]),(14,[]),(15,[]),(16,[]),(17,[]),(18,[]),(19,[]),(20,[]),(21,[]),(22,[]),(23,[]),(24,[]),(25,[]),(26,[]),(27,[]),(28,[]),(29,[]),(30,[]),(31,[]),(32,[]),(33,[]),(34,[]),(35,[]),(36,[]),(37,[]),(38,[]),(39,[]),(40,[]),(41,[]),(42,[]),(43,[]),(44,[]),(45,[]),(46,[]),(47,[]),(48,[]),(49,[])] [] [] (by kernel_rfl) (by kernel_rfl) (by simp) ?_
            simp only [Drift.pick, Drift.opsAt, List.getElem?_toArray, List.getElem?_cons_zero, List.getElem?_cons_succ, List.cons_append, List.nil_append, List.filterMap_nil]
            iterate 6 (refine Drift.walk_step (fun K hK => ?_); go_simp; refine hK _ ?_; clear hK K)
            refine Drift.walk_step (fun K hK => ?_); go_simp; apply Exists.intro; refine ⟨fun q => ?_, hK _ ?_⟩; (go_at_call 21; exact (cX _ (HWB.out.trans (q.into.below.mono HWB.out.size))).out); clear hK K
            iterate 39 (refine Drift.walk_step (fun K hK => ?_); go_simp; refine hK _ ?_; clear hK K)
            refine Drift.walk_step (fun K hK => ?_); go_simp; apply Exists.intro; refine ⟨fun q => ?_, hK _ ?_⟩; (go_at_call 22; exact (cB _ (HWB.out.trans (q.into.below.mono HWB.out.size))).out); clear hK K
            iterate 3 (refine Drift.walk_step (fun K hK => ?_); go_simp; refine hK _ ?_; clear hK K)
            refine Drift.walk_nil ?_
            intro w11 hb11 _
            have HBB := Lib.hid hb11
            clear hb11
            simp only [List.length_cons, List.length_nil, List.drop_succ_cons, List.drop_nil, Nat.zero_add, Nat.reduceAdd]
            go_wp2_with fail
            go_meet
            exact ⟨congrArg Value.bool (decide_eq_false (by omega)), HBB⟩
        case rest =>
        obtain ⟨rfl, hcut⟩ := hcut
        have hxr := (List.getElem?_eq_some_iff.1 hx).2
        clear c0' c1' d0' d1' d2' d3' d4' hl1 c0 c1 d0 d1 d2 d3 d4 u1 u2 u3 cX HWB
        have hbb := hcut.out
        obtain ⟨b2', o2', e2, c1⟩ := (HC.out.2.1.below hbb).at_ (i := k) (by rw [List.length_map, HRL2.out]; exact hlt)
        obtain ⟨rfl, rfl⟩ : b2 = b2' ∧ o2 = o2' := by simpa using e2
        rw [List.getElem_map, hxr] at c1
        have hmlt := HMI1.out.lt
        obtain ⟨w13, hst, hmi3, hin⟩ := (HMI1.out.keep (hbb.block m hmlt)).store HFX.out (by omega)
        have HBF : Hid (Below W.heap.size W w13) := below_into (HC.out.2.2.1.trans (hbb.mono HC.out.2.2.1.size)) hin hWm
        have HXF : Hid (w13.heap[g]? = some (.cells #[.int .i64 lv, .slice kA kn kc, .slice pA pn pc, .slice bA bn bc, .slice qA qn qc] 31 (0, 0))) := by
          have h1 := kept3 HC.out.2.2.2 hbb
          exact (hin.block g (Array.getElem?_eq_some_iff.1 h1).1 (by simp only [List.mem_singleton]; omega)).trans h1
        have HLF := Lib.hid ((HC.out.1.below hbb).into hin hnl)
        have HMF := Lib.hid ((HC.out.2.1.below hbb).into hin hnr)
        have HMIF : Hid (∃ ks' : List Int, MI w13 m (k + 1) ks' ∧ ∀ i : Nat, ks'.contains (i : Int) = (r.take (k + 1)).contains i) := ⟨_, hmi3, HNX.out⟩
        clear hbb hin hmi3 e2 hcut HC HMI1 HNX hxr hmlt hx hrl
        go_wp2_with fail
        go_roundg (kn - (k + 1))
        case measure => omega
        case rel => exact ⟨k + 1, hlt, rfl, by go_num, HMIF, HLF.out, HMF.out, HBF.out, HXF.out⟩
      · obtain rfl : k = kn := by omega
        have HBF := Lib.hid HC.out.2.2.1
        clear hlt
        go_wp2_with fail
        go_meet
        exact HBF
  case rest =>
  clear HL HM HX HW
  have HWC := hcut
  clear hcut
  go_wp2_with (go_at_call 8; refine (awake_any _).mono ?_; rintro e w12 ⟨rfl, hb⟩; have HBF := Lib.hid (HWC.out.trans (hb.mono HWC.out.size)))
  go_ret
  exact ⟨rfl, HBF.out⟩
end No
end Go.Proofs.Ytlcdjbleeanpbaa
