/-
  fan's law FanWays.
-/
import Derived.Test.YtokmnjbcnapmcaaFanLaw
namespace Go.Proofs.Ytokmnjbcnapmcaa
open Go.RowKit
namespace Fa
open Mem Lx Bu
theorem sp_eq (a e : ByteArray) (t : Bool) (w : World) : (binOp .eql 24 (.agg #[.string a, .string e, .bool t]) (.agg #[.string a, .string e, .bool t])).run Try.prog w = .ok (.bool true) w := by
  cases t <;> simp [go_sem]
set_option maxRecDepth 100000 in
set_option maxHeartbeats 4000000 in
theorem FanWays_walk (A : Option Addr) (c : Nat) (L : List ByteArray) (key lo hi : ByteArray) (top : Bool) (i : Int) (w : World) (hA : SC w A c L) (lA : L.length ≤ maxLen) :
    Calls Try.prog 3 #[.slice A L.length c, .string key, spanV lo hi top, .int .i64 i] w fun e w' => e = .returned (.bool true) ∧ Below w.heap.size w w' := by
  have cA := fun W => Lib.hid (awake_any W)
  obtain ⟨ga, hga⟩ := bool_of (¬ (FitS L ∧ key.size ≤ 300 ∧ lo.size ≤ 300 ∧ hi.size ≤ 300))
  obtain ⟨r, hr⟩ := bool_of (RightS L lo hi top)
  obtain ⟨s, hs⟩ := bool_of (SRise L)
  have cG : ∀ W, Below w.heap.size w W → Hid (Calls Try.prog 5 #[.slice A L.length c, .string key, .agg #[.string lo, .string hi, .bool top]] W fun e w' => e = .returned (.bool ga) ∧ Below W.heap.size W w') := fun W h => (great_any (c := c) (hA.1.kept h) key lo hi top lA).mono fun e w' ⟨⟨v, he, hv⟩, hw⟩ => ⟨by
    have : v = ga := by
      cases v <;> cases ga <;> simp_all
    rw [he, this], hw⟩
  have cR : FitS L → lo.size ≤ 300 → hi.size ≤ 300 → ∀ W, Below w.heap.size w W → Hid (Calls Try.prog 7 #[.slice A L.length c, .agg #[.string lo, .string hi, .bool top]] W fun e w' => e = .returned (.bool r) ∧ Below W.heap.size W w') := fun f h1 h2 W h => (Right_any (c := c) (hA.kept h) lo hi top (by omega) (by omega) (fitS_key3 f) (Nat.le_trans f.1 (by decide))).mono fun e w' ⟨⟨v, he, hv⟩, hb⟩ => ⟨by rw [he, bool_one hv hr], hb⟩
  have cRR : FitS L → lo.size ≤ 300 → ∀ W, Below w.heap.size w W → Hid (Calls Try.prog 8 #[.slice A L.length c, .agg #[.string lo, .string hi, .bool top]] W fun e w' => e = .returned (.bool r) ∧ Below W.heap.size W w') := fun f h1 W h => (RRight_any (c := c) (hA.1.kept h) lo hi top (Nat.le_trans h1 (by decide)) (fitS_key f) (Nat.le_trans f.1 (by decide))).mono fun e w' ⟨⟨v, he, hv⟩, hb⟩ => ⟨by rw [he, bool_one hv hr], hb⟩
  have cRi : FitS L → ∀ W, Below w.heap.size w W → Hid (Calls Try.prog 9 #[.slice A L.length c] W fun e w' => e = .returned (.bool s) ∧ Below W.heap.size W w') := fun f W h => (RRise_any (c := c) (hA.1.kept h) (fitS_key f) (Nat.le_trans f.1 (by decide))).mono fun e w' ⟨⟨v, he, hv⟩, hb⟩ => ⟨by rw [he, bool_one hv hs], hb⟩
  have cSp : FitS L → SRise L → lo.size ≤ 300 → hi.size ≤ 300 → ∀ W, Below w.heap.size w W → Hid (Calls Try.prog 10 #[.slice A L.length c, .int .i64 i, .agg #[.string lo, .string hi, .bool top]] W fun e w' => e = .returned (.tuple #[.agg #[.string (spanS L i lo hi top).1.1, .string (spanS L i lo hi top).1.2.1, .bool (spanS L i lo hi top).1.2.2], .bool (spanS L i lo hi top).2]) ∧ Below W.heap.size W w') := fun f hp h1 h2 W h => Span_any (c := c) (hA.kept h) i lo hi top (by omega) (by omega) (fitS_key3 f) (srise_iff.1 hp) (Nat.le_trans f.1 (by decide))
  have cRS : FitS L → lo.size ≤ 300 → ∀ W, Below w.heap.size w W → Hid (Calls Try.prog 11 #[.slice A L.length c, .int .i64 i, .agg #[.string lo, .string hi, .bool top]] W fun e w' => e = .returned (.tuple #[.agg #[.string (spanS L i lo hi top).1.1, .string (spanS L i lo hi top).1.2.1, .bool (spanS L i lo hi top).1.2.2], .bool (spanS L i lo hi top).2]) ∧ Below W.heap.size W w') := fun f h1 W h => RSpan_any (c := c) (hA.1.kept h) i lo hi top (Nat.le_trans h1 (by decide)) (fitS_key f) (Nat.le_trans f.1 (by decide))
  have cWa : FitS L → SRise L → key.size ≤ 300 → ∀ W, Below w.heap.size w W → Hid (Calls Try.prog 12 #[.slice A L.length c, .string key] W fun e w' => e = .returned (.int .i64 (wayS L key : Int)) ∧ Below W.heap.size W w') := fun f hp h1 W h => Way_any (c := c) (hA.kept h) key (by omega) (fitS_key3 f) (srise_iff.1 hp) (Nat.le_trans f.1 (by decide))
  have cRW : FitS L → ∀ W, Below w.heap.size w W → Hid (Calls Try.prog 13 #[.slice A L.length c, .string key] W fun e w' => e = .returned (.int .i64 (wayS L key : Int)) ∧ Below W.heap.size W w') := fun f W h => RWay_any (c := c) (hA.1.kept h) key (fitS_key f) (Nat.le_trans f.1 (by decide))
  have HGA := Lib.hid hga
  have HSS := Lib.hid hs
  generalize spanS L i lo hi top = R at *
  obtain ⟨⟨ra, re, rt⟩, rb⟩ := R
  simp only at cSp cRS
  generalize (wayS L key : Int) = wy at *
  clear hA lA hga hr hs
  generalize L.length = n at *
  go_enter Try.func3, Try.ntmps3
  go_upto_region 1 with fail
  have hx := heap_alloc_new w (.cells #[.string lo, .string hi, .bool top] 24)
  have hb0 : Below w.heap.size w (w.alloc (.cells #[.string lo, .string hi, .bool top] 24)) := (Below.refl _ _).alloc (Nat.le_refl _) _
  generalize w.alloc (.cells #[.string lo, .string hi, .bool top] 24) = w1 at *
  have HB := Lib.hid hb0
  obtain ⟨g, hg⟩ : ∃ g, g = w.heap.size := ⟨_, rfl⟩
  simp only [← hg]
  rw [← hg] at hx
  have HX := Lib.hid hx
  clear hx hb0 hg
  obtain ⟨d0, d1, d2⟩ := box3 HX.out
  go_upto_if 16 with (go_at_call 5; refine (cG _ HB.out).out.mono ?_; rintro e w2 ⟨rfl, hb⟩)
  replace HX := Lib.hid (kept3 HX.out hb)
  replace HB := Lib.hid (HB.out.trans (hb.mono HB.out.size))
  clear d0 d1 d2 hb cG
  cases ga with
  | true =>
    clear cR cRR cRi cSp cRS cWa cRW HGA HSS
    go_wp2_with (go_at_call 6; refine (cA _).out.mono ?_; rintro e w' ⟨rfl, hb⟩; replace HB := Lib.hid (HB.out.trans (hb.mono HB.out.size)); clear hb)
    go_ret
    exact ⟨rfl, HB.out⟩
  | false =>
    have f : FitS L ∧ key.size ≤ 300 ∧ lo.size ≤ 300 ∧ hi.size ≤ 300 := Classical.not_not.1 fun h => by cases HGA.out.2 h
    replace cR := cR f.1 f.2.2.1 f.2.2.2
    replace cRR := cRR f.1 f.2.2.1
    replace cRi := cRi f.1
    replace cRS := cRS f.1 f.2.2.1
    replace cRW := cRW f.1
    have cSp2 := fun hp => cSp f.1 hp f.2.2.1 f.2.2.2
    have cWa2 := fun hp => cWa f.1 hp f.2.1
    clear f HGA cSp cWa
    obtain ⟨d0, d1, d2⟩ := box3 HX.out
    have z0 := fun q : Drift.Tide [] w2 [] => Drift.Tide.cell d0 (by simp) q
    have z1 := fun q : Drift.Tide [] w2 [] => Drift.Tide.cell d1 (by simp) q
    have z2 := fun q : Drift.Tide [] w2 [] => Drift.Tide.cell d2 (by simp) q
    clear d0 d1 d2
    go_upto_region 3 with fail
    refine Drift.wp_region_drift [] [(0,[]),(1,[]),(2,[]),(3,[]),(4,[]),(5,[]),(6,[])] [] [] (by kernel_rfl) (by kernel_rfl) (by simp) ?_
    simp only [Drift.pick, Drift.opsAt, List.getElem?_toArray, List.getElem?_cons_zero, List.getElem?_cons_succ, List.cons_append, List.nil_append, List.filterMap_nil]
    repeat (refine Drift.walk_step (fun K hK => ?_); go_simp; first | (refine hK _ ?_; clear hK K) | (apply Exists.intro; refine ⟨fun q => ?_, hK _ ?_⟩; (first | (go_at_call 7; exact (cR _ (HB.out.trans (q.into.below.mono HB.out.size))).out) | (go_at_call 8; exact (cRR _ (HB.out.trans (q.into.below.mono HB.out.size))).out)); clear hK K))
    refine Drift.walk_nil ?_
    intro w3 hb _
    replace HX := Lib.hid (kept3 HX.out hb)
    replace HB := Lib.hid (HB.out.trans (hb.mono HB.out.size))
    clear z0 z1 z2 hb cR cRR
    simp only [List.length_cons, List.length_nil, List.drop_succ_cons, List.drop_nil, Nat.zero_add, Nat.reduceAdd]
    cases s with
    | false =>
      clear cRS cRW cSp2 cWa2 HSS
      cases r
      all_goals
        go_wp2_with (first
          | (go_at_call 9; refine (cRi _ HB.out).out.mono ?_; rintro e w' ⟨rfl, hb⟩; replace HB := Lib.hid (HB.out.trans (hb.mono HB.out.size)); clear hb)
          | (go_at_call 6; refine (cA _).out.mono ?_; rintro e w' ⟨rfl, hb⟩; replace HB := Lib.hid (HB.out.trans (hb.mono HB.out.size)); clear hb))
        go_ret
        exact ⟨rfl, HB.out⟩
    | true =>
      have cSp := cSp2 (HSS.out.1 rfl)
      have cWa := cWa2 (HSS.out.1 rfl)
      clear cSp2 cWa2 HSS
      cases r
      all_goals
        go_upto_region 7 with (go_at_call 9; refine (cRi _ HB.out).out.mono ?_; rintro e w4 ⟨rfl, hb⟩; replace HX := Lib.hid (kept3 HX.out hb); replace HB := Lib.hid (HB.out.trans (hb.mono HB.out.size)); clear hb)
        clear cRi
        obtain ⟨d0, d1, d2⟩ := box3 HX.out
        go_upto_region 8 with (go_at_call 10; refine (cSp _ HB.out).out.mono ?_; rintro e w5 ⟨rfl, hb⟩; replace HX := Lib.hid (kept3 HX.out hb); replace HB := Lib.hid (HB.out.trans (hb.mono HB.out.size)); clear hb cSp d0 d1 d2)
        have hb1 : Below w5.heap.size w5 (w5.alloc (.cells #[.string ra, .string re, .bool rt] 24)) := (Below.refl _ _).alloc (Nat.le_refl _) _
        have HX1 : Hid ((w5.alloc (.cells #[.string ra, .string re, .bool rt] 24)).heap[w5.heap.size]? = some (.cells #[.string ra, .string re, .bool rt] 24 (0, 0))) := heap_alloc_new w5 _
        replace HX := Lib.hid (kept3 HX.out hb1)
        replace HB := Lib.hid (HB.out.trans (hb1.mono HB.out.size))
        generalize w5.alloc (.cells #[.string ra, .string re, .bool rt] 24) = w6 at *
        obtain ⟨g1, hg1⟩ : ∃ g1, g1 = w5.heap.size := ⟨_, rfl⟩
        simp only [← hg1]
        rw [← hg1] at HX1
        clear hg1 hb1
        obtain ⟨d0, d1, d2⟩ := box3 HX.out
        go_upto_region 9 with (go_at_call 11; refine (cRS _ HB.out).out.mono ?_; rintro e w7 ⟨rfl, hb⟩; replace HX1 := Lib.hid (kept3 HX1.out hb); replace HB := Lib.hid (HB.out.trans (hb.mono HB.out.size)); clear hb cRS d0 d1 d2 HX)
        have hb1 : Below w7.heap.size w7 (w7.alloc (.cells #[.string ra, .string re, .bool rt] 24)) := (Below.refl _ _).alloc (Nat.le_refl _) _
        have HX2 : Hid ((w7.alloc (.cells #[.string ra, .string re, .bool rt] 24)).heap[w7.heap.size]? = some (.cells #[.string ra, .string re, .bool rt] 24 (0, 0))) := heap_alloc_new w7 _
        replace HX1 := Lib.hid (kept3 HX1.out hb1)
        replace HB := Lib.hid (HB.out.trans (hb1.mono HB.out.size))
        generalize w7.alloc (.cells #[.string ra, .string re, .bool rt] 24) = w8 at *
        obtain ⟨g2, hg2⟩ : ∃ g2, g2 = w7.heap.size := ⟨_, rfl⟩
        simp only [← hg2]
        rw [← hg2] at HX2
        clear hg2 hb1
        have hEq := sp_eq ra re rt
        have hbb : (rb == rb) = true := by simp
        go_wp2_with (first
          | (go_at_call 12; refine (cWa _ HB.out).out.mono ?_; rintro e w' ⟨rfl, hb⟩; replace HX1 := Lib.hid (kept3 HX1.out hb); replace HX2 := Lib.hid (kept3 HX2.out hb); replace HB := Lib.hid (HB.out.trans (hb.mono HB.out.size)); clear hb)
          | (go_at_call 13; refine (cRW _ HB.out).out.mono ?_; rintro e w' ⟨rfl, hb⟩; replace HX1 := Lib.hid (kept3 HX1.out hb); replace HX2 := Lib.hid (kept3 HX2.out hb); replace HB := Lib.hid (HB.out.trans (hb.mono HB.out.size)); clear hb; obtain ⟨e0, e1, e2⟩ := box3 HX1.out; obtain ⟨i0, i1, i2⟩ := box3 HX2.out)
          | (go_at_call 6; refine (cA _).out.mono ?_; rintro e w' ⟨rfl, hb⟩; replace HB := Lib.hid (HB.out.trans (hb.mono HB.out.size)); clear hb))
        go_ret
        exact ⟨rfl, HB.out⟩
end Fa
end Go.Proofs.Ytokmnjbcnapmcaa
