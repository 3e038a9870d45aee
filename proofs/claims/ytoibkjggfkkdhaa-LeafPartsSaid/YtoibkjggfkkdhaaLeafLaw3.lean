/-
  leaf's law LeafParts.
-/
import Derived.Test.YtoibkjggfkkdhaaLeafLaw2
namespace Go.Proofs.Ytoibkjggfkkdhaa
open Go.RowKit
namespace Lf
open Mem Lx Bu
theorem partP_len (p : Pr → Bool) (most : Int) (L : List Pr) : (partP p most L).length ≤ L.length := by
  unfold partP
  rw [List.length_take]
  have := List.length_filter_le p L
  omega
/-- Part's answer -/
def EvPart (P : List Pr) (pn : Nat) (v : Value) (w : World) : Prop := ∃ A1 c1, v = .slice A1 pn c1 ∧ PL w A1 P
theorem RCut_below (a b : ByteArray) (w : World) (ha : a.size ≤ maxLen) (hb : b.size ≤ maxLen) : Calls Try.prog 20 #[.string a, .string b] w fun e w' => e = .returned (.tuple #[.string (cutB a b).1, .bool (cutB a b).2]) ∧ Below w.heap.size w w' :=
  (RCut_any a b w ha hb).mono fun e w' ⟨he, n, hw⟩ => ⟨he, by rw [hw]; exact ⟨rfl, rfl, rfl, Nat.le_refl _, fun _ _ => rfl⟩⟩
/-- Halve's answer -/
def EvHalf (L : List Pr) (v : Value) (w : World) : Prop := ∃ A1 c1 A2 c2, v = .tuple #[.slice A1 (halfP L).1.length c1, .slice A2 (halfP L).2.1.length c2, .string (halfP L).2.2.1, .bool (halfP L).2.2.2] ∧ PC w A1 c1 (halfP L).1 ∧ PC w A2 c2 (halfP L).2.1
set_option maxRecDepth 100000 in
set_option maxHeartbeats 4000000 in
theorem LeafParts_walk (A : Option Addr) (c : Nat) (L : List Pr) (lo hi : ByteArray) (top : Bool) (most : Int) (w : World) (hA : PC w A c L) (lA : L.length ≤ maxLen) :
    Calls Try.prog 6 #[.slice A L.length c, spanV lo hi top, .int .i64 most] w fun e w' => e = .returned (.bool true) ∧ Below w.heap.size w w' := by
  have cA := fun W => Lib.hid (awake_any W)
  obtain ⟨ga, hga⟩ := bool_of (¬ FitP L)
  obtain ⟨r, hr⟩ := bool_of (PRise L)
  have cG : ∀ W, Below w.heap.size w W → Hid (Calls Try.prog 7 #[.slice A L.length c, .slice none 0 0] W fun e w' => e = .returned (.bool ga) ∧ w' = W) := fun W h => great1 (A := A) (c := c) lA ga (by cases ga <;> simp_all) W (hA.1.kept h)
  have cRR : FitP L → ∀ W, Below w.heap.size w W → Hid (Calls Try.prog 10 #[.slice A L.length c] W fun e w' => e = .returned (.bool r) ∧ Below W.heap.size W w') := fun f W h => (RRight_any (c := c) (hA.1.kept h) (fitP_key f) (Nat.le_trans f.1 (by decide))).mono fun e w' ⟨⟨v, he, hv⟩, hb⟩ => ⟨by rw [he, bool_one hv hr], hb⟩
  have cPt : FitP L → PRise L → lo.size ≤ 300 → hi.size ≤ 300 → ∀ W, Below w.heap.size w W → Hid (Calls Try.prog 17 #[.slice A L.length c, .agg #[.string lo, .string hi, .bool top], .int .i64 most] W fun e w' => (∃ A1 c1, e = .returned (.slice A1 (partP (fun m => inB lo hi top m.1) most L).length c1) ∧ PL w' A1 (partP (fun m => inB lo hi top m.1) most L)) ∧ Below W.heap.size W w') := fun f hp h1 h2 W h => Part_any (c := c) (hA.kept h) lo hi top most (by omega) (by omega) (fitP_key3 f) (prise_iff.1 hp) (Nat.le_trans f.1 (by decide))
  have cRP : FitP L → lo.size ≤ 300 → ∀ W, Below w.heap.size w W → Hid (Calls Try.prog 18 #[.slice A L.length c, .agg #[.string lo, .string hi, .bool top], .int .i64 most] W fun e w' => (∃ A1 c1, e = .returned (.slice A1 (partP (fun m => inB lo hi top m.1) most L).length c1) ∧ PL w' A1 (partP (fun m => inB lo hi top m.1) most L)) ∧ Below W.heap.size W w') := fun f h1 W h => (RPart_pairs (c := c) (hA.1.kept h) lo hi top most (Nat.le_trans h1 (by decide)) (fitP_key f) (Nat.le_trans f.1 (by decide))).mono fun e w' ⟨⟨A1, c1, he, g1⟩, hb⟩ => ⟨⟨A1, c1, he, g1.rd⟩, hb⟩
  have cSP : FitP L → ∀ (W : World) (A1 A2 : Option Addr) (c1 c2 : Nat), PL W A1 (partP (fun m => inB lo hi top m.1) most L) → PL W A2 (partP (fun m => inB lo hi top m.1) most L) → Hid (Calls Try.prog 12 #[.slice A1 (partP (fun m => inB lo hi top m.1) most L).length c1, .slice A2 (partP (fun m => inB lo hi top m.1) most L).length c2] W fun e w' => e = .returned (.bool true) ∧ Below W.heap.size W w') := fun f W A1 A2 c1 c2 g1 g2 => by
    have := partP_len (fun m => inB lo hi top m.1) most L
    have h1 := f.1
    exact (RSame_any (c := c1) (c' := c2) g1 g2 (by omega) (by omega)).mono fun e w' ⟨⟨v, he, hv⟩, hb⟩ => ⟨by rw [he, hv.2 rfl], hb⟩
  have cH : FitP L → PRise L → ∀ W, Below w.heap.size w W → Hid (Calls Try.prog 19 #[.slice A L.length c] W fun e w' => (∃ v, e = .returned v ∧ EvHalf L v w') ∧ Below W.heap.size W w') := fun f hp W h => (Halve_any (c := c) (hA.kept h) (fitP_key3 f) (prise_iff.1 hp) (Nat.le_trans f.1 (by decide))).mono fun e w' ⟨⟨A1, c1, A2, c2, he, g1, g2⟩, hb⟩ => ⟨⟨_, he, A1, c1, A2, c2, rfl, g1, g2⟩, hb⟩
  have cS : ∀ (X : List Pr) (x : Nat), X.length = x → x ≤ 1000 → ∀ (W : World) (A1 A2 : Option Addr) (c1 c2 : Nat), PL W A1 X → PL W A2 X → Hid (Calls Try.prog 12 #[.slice A1 x c1, .slice A2 x c2] W fun e w' => e = .returned (.bool true) ∧ Below W.heap.size W w') := fun X x hx hl W A1 A2 c1 c2 g1 g2 => by
    subst hx
    exact (RSame_any (c := c1) (c' := c2) g1 g2 (by omega) (by omega)).mono fun e w' ⟨⟨v, he, hv⟩, hb⟩ => ⟨by rw [he, hv.2 rfl], hb⟩
  have HA := Lib.hid hA
  have HGA := Lib.hid hga
  have HRR := Lib.hid hr
  generalize partP (fun m => inB lo hi top m.1) most L = P at *
  generalize P.length = pn at *
  clear hA lA hga hr
  generalize hn : L.length = n at *
  have HN := Lib.hid hn
  clear hn
  obtain ⟨kl, hkl⟩ : ∃ kl, kl = decide (300 < (lo.size : Int)) := ⟨_, rfl⟩
  obtain ⟨kh, hkh⟩ : ∃ kh, kh = decide (300 < (hi.size : Int)) := ⟨_, rfl⟩
  go_enter Try.func6, Try.ntmps6
  go_upto_region 1 with fail
  have hx := heap_alloc_new w (.cells #[.string lo, .string hi, .bool top] 37)
  have hb0 : Below w.heap.size w (w.alloc (.cells #[.string lo, .string hi, .bool top] 37)) := (Below.refl _ _).alloc (Nat.le_refl _) _
  generalize w.alloc (.cells #[.string lo, .string hi, .bool top] 37) = w1 at *
  obtain ⟨g, hg⟩ : ∃ g, g = w.heap.size := ⟨_, rfl⟩
  have HW : Hid (Below w.heap.size w w1) := hb0
  rw [← hg] at hx ⊢
  have HX := Lib.hid hx
  have HG := Lib.hid hg
  clear hx hb0 hg
  go_cut [32] (fun tv wx => tv = .bool (ga || kl || kh || !r) ∧ Hid (Below w.heap.size w wx) ∧ Hid (wx.heap[g]? = some (.cells #[.string lo, .string hi, .bool top] 37 (0, 0))))
  case first =>
    clear cA cPt cRP cSP cH cS HRR
    obtain ⟨d0, d1, d2⟩ := box3 HX.out
    replace cG := cG _ HW.out
    cases ga with
    | true =>
      go_wp2_with (go_at_call 7; refine cG.out.mono ?_; rintro e w' ⟨rfl, rfl⟩)
      go_meet
      exact ⟨rfl, HW, HX⟩
    | false =>
      have f : FitP L := Classical.not_not.1 fun h => by cases HGA.out.2 h
      replace cRR := cRR f _ HW.out
      clear f HGA
      cases kl with
      | true =>
        have hkl' : (300 : Int) < (lo.size : Int) := by simpa using hkl.symm
        clear hkl hkh
        go_wp2_with (go_at_call 7; refine cG.out.mono ?_; rintro e w' ⟨rfl, rfl⟩)
        go_meet
        exact ⟨rfl, HW, HX⟩
      | false =>
        cases kh with
        | true =>
          have hkl' : decide ((300 : Int) < (lo.size : Int)) = false := hkl.symm
          have hkh' : (300 : Int) < (hi.size : Int) := by simpa using hkh.symm
          clear hkl hkh
          go_wp2_with (go_at_call 7; refine cG.out.mono ?_; rintro e w' ⟨rfl, rfl⟩)
          go_meet
          exact ⟨rfl, HW, HX⟩
        | false =>
          have hkl' : decide ((300 : Int) < (lo.size : Int)) = false := hkl.symm
          have hkh' : decide ((300 : Int) < (hi.size : Int)) = false := hkh.symm
          clear hkl hkh
          go_wp2_with (first
            | (go_at_call 7; refine cG.out.mono ?_; rintro e w' ⟨rfl, rfl⟩)
            | (go_at_call 10; refine cRR.out.mono ?_; rintro e w9 ⟨rfl, hb⟩))
          go_meet
          exact ⟨rfl, HW.out.trans (hb.mono HW.out.size), kept3 HX.out hb⟩
  case rest =>
  clear HX HW
  obtain ⟨rfl, HW, HX⟩ := hcut
  clear cG cRR
  obtain ⟨tb, htb⟩ : ∃ tb, tb = (ga || kl || kh || !r) := ⟨_, rfl⟩
  rw [← htb]
  cases tb with
  | true =>
    clear cPt cRP cSP cH cS HRR HGA htb hkl hkh
    go_wp2_with (go_at_call 8; refine (cA _).out.mono ?_; rintro e w' ⟨rfl, hb⟩)
    go_ret
    exact ⟨rfl, HW.out.trans (hb.mono HW.out.size)⟩
  | false =>
    obtain ⟨⟨⟨rfl, rfl⟩, rfl⟩, rfl⟩ : ((ga = false ∧ kl = false) ∧ kh = false) ∧ r = true := by simpa using htb.symm
    have f : FitP L := Classical.not_not.1 fun h => by cases HGA.out.2 h
    have hp : PRise L := HRR.out.1 rfl
    have hl1 : lo.size ≤ 300 := by
      have : ¬ (300 < (lo.size : Int)) := by simpa using hkl.symm
      omega
    have hl2 : hi.size ≤ 300 := by
      have : ¬ (300 < (hi.size : Int)) := by simpa using hkh.symm
      omega
    replace cPt := cPt f hp hl1 hl2
    replace cRP := cRP f hl1
    replace cSP := cSP f
    replace cH := cH f hp
    have hn120 : n ≤ 120 := by rw [← HN.out]; exact f.1
    have HPR : Hid (PRi L) := prise_iff.1 hp
    have HKY : Hid (∀ x, x ∈ L → x.1.size ≤ maxLen) := fitP_key f
    clear HGA htb HRR hkl hkh f hp hl1 hl2
    obtain ⟨d0, d1, d2⟩ := box3 HX.out
    have z0 := fun q : Drift.Tide [] wc [] => Drift.Tide.cell d0 (by simp) q
    have z1 := fun q : Drift.Tide [] wc [] => Drift.Tide.cell d1 (by simp) q
    have z2 := fun q : Drift.Tide [] wc [] => Drift.Tide.cell d2 (by simp) q
    clear d0 d1 d2
    go_upto_region 3 with fail
    refine Drift.wp_region_drift [] [(0,[]),(1,[]),(2,[]),(4,[]),(5,[]),(6,[]),(3,[]),(7,[]),(8,[]),(9,[])] [3, 7] [] (by kernel_rfl) (by kernel_rfl) (by simp) ?_
    simp only [Drift.pick, Drift.opsAt, List.getElem?_toArray, List.getElem?_cons_zero, List.getElem?_cons_succ, List.cons_append, List.nil_append, List.filterMap_nil]
    repeat (refine Drift.walk_step (fun K hK => ?_); go_simp; (refine hK _ ?_; clear hK K))
    refine Drift.walk_event rfl Drift.mkwalk_nil (EvPart P pn) (fun W2 hk _ => ?_) (fun v w5 hv hI _ hTd => ?_)
    · go_simp
      go_at_call 17
      refine (cPt W2 (HW.out.trans (hk.mono HW.out.size))).out.mono ?_
      rintro e w' ⟨⟨A1, c1, rfl, h1⟩, hb⟩
      exact ⟨_, rfl, ⟨A1, c1, rfl, h1⟩, Flow.Into.of_below hb⟩
    obtain ⟨A1, c1, rfl, h1⟩ := hv
    have HP1 := Lib.hid h1
    have HB5 : Hid (Below wc.heap.size wc w5) := hI.below
    have HW5 : Hid (Below w.heap.size w w5) := HW.out.trans (HB5.out.mono HW.out.size)
    clear h1 hI hTd
    refine Drift.walk_event rfl Drift.mkwalk_nil (EvPart P pn) (fun W2 hk _ => ?_) (fun v w6 hv hI _ hTd => ?_)
    · go_simp
      go_at_call 18
      refine (cRP W2 (HW5.out.trans (hk.mono HW5.out.size))).out.mono ?_
      rintro e w' ⟨⟨A1, c1, rfl, h1⟩, hb⟩
      exact ⟨_, rfl, ⟨A1, c1, rfl, h1⟩, Flow.Into.of_below hb⟩
    obtain ⟨A2, c2, rfl, h2⟩ := hv
    have HP2 := Lib.hid h2
    have HP1' := Lib.hid (HP1.out.kept hI.below)
    have HW6 : Hid (Below w.heap.size w w6) := HW5.out.trans (hI.below.mono HW5.out.size)
    clear h2 hI HP1 HB5 HW5
    repeat (refine Drift.walk_step (fun K hK => ?_); go_simp; first | (refine hK _ ?_; clear hK K) | (apply Exists.intro; refine ⟨fun q => ?_, hK _ ?_⟩; (go_at_call 12; exact (cSP _ _ _ _ _ (HP1'.out.kept q.into.below) (HP2.out.kept q.into.below)).out); clear hK K))
    refine Drift.walk_nil ?_
    intro w7 hb7 _
    have HW7 : Hid (Below w.heap.size w w7) := HW6.out.trans (hb7.mono HW6.out.size)
    clear z0 z1 z2 HP1' HP2 HW6 HW HX hTd hb7 cPt cRP cSP
    simp only [List.length_cons, List.length_nil, List.drop_succ_cons, List.drop_nil, Nat.zero_add, Nat.reduceAdd]
    go_upto_region 6 with (go_at_call 19; refine (cH _ HW7.out).out.mono ?_; rintro e w8 ⟨⟨v, rfl, A3, c3, A4, c4, rfl, h3, h4⟩, hb⟩)
    have H3 := Lib.hid h3
    have H4 := Lib.hid h4
    replace HW7 := Lib.hid (HW7.out.trans (hb.mono HW7.out.size))
    clear h3 h4 hb cH
    by_cases h2 : n < 2
    · have hq : halfP L = ([], [], ⟨#[]⟩, false) := halfP_few (by rw [HN.out]; exact h2)
      rw [hq]
      clear H3 H4 hq HPR HKY cS
      go_wp2_with (go_at_call 8; refine (cA _).out.mono ?_; rintro e w' ⟨rfl, hb⟩; replace HW7 := Lib.hid (HW7.out.trans (hb.mono HW7.out.size)); clear hb)
      go_ret
      exact ⟨rfl, HW7.out⟩
    · obtain ⟨k, hk⟩ : ∃ k, k = (n + 1) / 2 := ⟨_, rfl⟩
      have hk1 : 1 ≤ k := by omega
      have hkn : k < n := by omega
      obtain ⟨x, hxx⟩ : ∃ x, L[k - 1]? = some x := ⟨L[k - 1]'(by rw [HN.out]; omega), nat_len (by rw [HN.out]; omega)⟩
      obtain ⟨y, hyy⟩ : ∃ y, L[k]? = some y := ⟨L[k]'(by rw [HN.out]; omega), nat_len (by rw [HN.out]; omega)⟩
      have hq : halfP L = (L.take k, L.drop k, (cutB x.1 y.1).1, true) := by
        have := halfP_some (L := L) (x := x) (y := y) (by rw [HN.out, ← hk]; exact hxx) (by rw [HN.out, ← hk]; exact hyy)
        rw [HN.out, ← hk] at this
        exact this
      have hxy : cmpB x.1 y.1 < 0 := HPR.out.at_ hxx hyy (by omega)
      obtain ⟨hm1, hm2⟩ := cutB_mid hxy
      rw [hq] at H3 H4 ⊢
      have cC := fun w => Lib.hid (RCut_below x.1 y.1 w (HKY.out x (List.mem_of_getElem? hxx)) (HKY.out y (List.mem_of_getElem? hyy)))
      have kp : (cutB x.1 y.1).1.size ≤ maxLen := by
        rw [cutB_some (by omega)]
        have := HKY.out y (List.mem_of_getElem? hyy)
        show (y.1.extract 0 _).size ≤ maxLen
        rw [ByteArray.size_extract]
        omega
      have cX := fun w => Lib.hid (RCmp x.1 (cutB x.1 y.1).1 (HKY.out x (List.mem_of_getElem? hxx)) w)
      have cY := fun w => Lib.hid (RCmp (cutB x.1 y.1).1 y.1 kp w)
      generalize (cutB x.1 y.1).1 = pv at *
      generalize (cutB x.1 y.1).2 = pb at *
      have HL3 : Hid ((L.take k).length = k) := by unfold Hid; rw [List.length_take, HN.out]; omega
      have HL4 : Hid ((L.drop k).length = n - k) := by unfold Hid; rw [List.length_drop, HN.out]
      have cS3 := cS _ k HL3.out (by omega)
      have cS4 := cS _ (n - k) HL4.out (by omega)
      simp only [HL3.out, HL4.out]
      have r1 := fun w => run_upToP A n c k (by have := HA.out.2; rw [HN.out] at this; omega) w
      have r2 := fun w => run_cutP A n c k (by omega) w
      have hw1 : IntKind.i64.wrap ((n : Int) + 1) = (n : Int) + 1 := by rw [IntKind.wrap_i64]; omega
      obtain ⟨j, hj⟩ : ∃ j, j = k - 1 := ⟨_, rfl⟩
      have hw2 : IntKind.i64.wrap ((k : Int) - 1) = (j : Int) := by rw [IntKind.wrap_i64]; omega
      have hjn : j < n := by omega
      have hjk : j < k := by omega
      rw [← hj] at hxx
      have HXX := Lib.hid hxx
      have HYY := Lib.hid hyy
      have HQ2 : Hid (((n : Int) + 1) / 2 = (k : Int)) := by unfold Hid; omega
      clear hj hq hxx hyy hxy kp cS hk HPR HKY
      go_upto_region 9 with fail
      rw [HQ2.out]
      obtain ⟨b, o, e, -, c0, -⟩ := RdK.pair (HA.out.1.kept HW7.out) HXX.out
      subst e
      obtain ⟨b2, o2, e, -, e0, -⟩ := RdK.pair (HA.out.1.kept HW7.out) HYY.out
      obtain ⟨rfl, rfl⟩ : b = b2 ∧ o = o2 := by simpa using e
      clear e
      have z0 := fun q : Drift.Tide [] w8 [] => Drift.Tide.cell c0 (by simp) q
      have z1 := fun q : Drift.Tide [] w8 [] => Drift.Tide.cell e0 (by simp) q
      clear c0 e0
      refine Drift.wp_region_drift [] [(0,[]),(1,[]),(2,[]),(3,[]),(4,[]),(5,[]),(6,[]),(7,[]),(8,[]),(9,[]),(10,[]),(11,[]),(12,[]),(13,[]),(14,[]),(15,[]),(16,[])] [] [] (by kernel_rfl) (by kernel_rfl) (by simp) ?_
      simp only [Drift.pick, Drift.opsAt, List.getElem?_toArray, List.getElem?_cons_zero, List.getElem?_cons_succ, List.cons_append, List.nil_append, List.filterMap_nil]
      repeat (refine Drift.walk_step (fun K hK => ?_); go_simp; first | (refine hK _ ?_; clear hK K) | (apply Exists.intro; refine ⟨fun q => ?_, hK _ ?_⟩; (go_at_call 20; exact (cC _).out); clear hK K))
      refine Drift.walk_nil ?_
      intro w9 hb9 _
      have HW9 : Hid (Below w.heap.size w w9) := HW7.out.trans (hb9.mono HW7.out.size)
      have H3' := Lib.hid (H3.out.kept hb9)
      have H4' := Lib.hid (H4.out.kept hb9)
      clear z0 z1 hb9 H3 H4 HW7 cC hw1 HQ2
      simp only [List.length_cons, List.length_nil, List.drop_succ_cons, List.drop_nil, Nat.zero_add, Nat.reduceAdd]
      have HT : Hid (PL w (some ⟨b, o, none⟩) (L.take k)) := (HA.out.upTo k).1
      have HD : Hid (PL w (cutK 2 (some ⟨b, o, none⟩) c k) (L.drop k)) := (HA.out.cut k).1
      go_upto_region 12 with (first
        | (go_at_call_of 12 (Value.slice A3 k c3); refine (cS3 _ _ _ _ _ H3'.out.1 (HT.out.kept HW9.out)).out.mono ?_; rintro e w' ⟨rfl, hb⟩; replace HW9 := Lib.hid (HW9.out.trans (hb.mono HW9.out.size)); replace H3' := Lib.hid (H3'.out.kept hb); replace H4' := Lib.hid (H4'.out.kept hb); clear hb cS3)
        | (go_at_call_of 12 (Value.slice A4 (n - k) c4); refine (cS4 _ _ _ _ _ H4'.out.1 (HD.out.kept HW9.out)).out.mono ?_; rintro e w10 ⟨rfl, hb⟩; replace HW9 := Lib.hid (HW9.out.trans (hb.mono HW9.out.size)); replace H3' := Lib.hid (H3'.out.kept hb); replace H4' := Lib.hid (H4'.out.kept hb); clear hb cS4))
      obtain ⟨b3, o3, e, -, c0, -⟩ := RdK.pair H3'.out.1 (i := j) (m := x) (by rw [List.getElem?_take, if_pos hjk]; exact HXX.out)
      subst e
      generalize hcx : cmpB x.1 pv = zx at *
      generalize hcy : cmpB pv y.1 = zy at *
      have hkn2 : 0 < n - k := by omega
      clear hcx hcy
      go_wp2_with (first
        | (go_at_call_of 21 (Value.string x.1); refine (cX _).out.mono ?_; rintro e w' ⟨rfl, hb⟩; obtain ⟨b4, o4, e, -, e0, -⟩ := RdK.pair (H4'.out.1.kept hb) (i := 0) (m := y) (by rw [List.getElem?_drop]; exact HYY.out); subst e; rw [Nat.zero_mul, Nat.add_zero] at e0; replace HW9 := Lib.hid (HW9.out.trans (hb.mono HW9.out.size)); clear hb cX)
        | (go_at_call 21; refine (cY _).out.mono ?_; rintro e w' ⟨rfl, hb⟩; replace HW9 := Lib.hid (HW9.out.trans (hb.mono HW9.out.size)); clear hb)
        | (go_at_call 8; refine (cA _).out.mono ?_; rintro e w' ⟨rfl, hb⟩; replace HW9 := Lib.hid (HW9.out.trans (hb.mono HW9.out.size)); clear hb))
      go_ret
      exact ⟨rfl, HW9.out⟩
end Lf
end Go.Proofs.Ytoibkjggfkkdhaa
