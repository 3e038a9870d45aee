/-
  fan's law FanOne.
-/
import Derived.Test.YtokmnjbcnapmcaaFanLaw2
namespace Go.Proofs.Ytokmnjbcnapmcaa
open Go.RowKit
namespace Fa
open Mem Lx Bu
set_option maxRecDepth 100000 in
set_option maxHeartbeats 4000000 in
theorem FanOne_walk (A : Option Addr) (c : Nat) (L : List ByteArray) (key lo hi : ByteArray) (top : Bool) (w : World) (hA : SC w A c L) (lA : L.length ≤ maxLen) :
    Calls Try.prog 4 #[.slice A L.length c, .string key, spanV lo hi top] w fun e w' => e = .returned (.bool true) ∧ Below w.heap.size w w' := by
  have cA := fun W => Lib.hid (awake_any W)
  obtain ⟨ga, hga⟩ := bool_of (¬ (FitS L ∧ key.size ≤ 300 ∧ lo.size ≤ 300 ∧ hi.size ≤ 300))
  obtain ⟨r, hr⟩ := bool_of (RightS L lo hi top)
  obtain ⟨s, hs⟩ := bool_of (SRise L)
  have cG : ∀ W, Below w.heap.size w W → Hid (Calls Try.prog 5 #[.slice A L.length c, .string key, .agg #[.string lo, .string hi, .bool top]] W fun e w' => e = .returned (.bool ga) ∧ Below W.heap.size W w') := fun W h => (great_any (c := c) (hA.1.kept h) key lo hi top lA).mono fun e w' ⟨⟨v, he, hv⟩, hw⟩ => ⟨by
    have : v = ga := by
      cases v <;> cases ga <;> simp_all
    rw [he, this], hw⟩
  have cRR : FitS L → lo.size ≤ 300 → ∀ W, Below w.heap.size w W → Hid (Calls Try.prog 8 #[.slice A L.length c, .agg #[.string lo, .string hi, .bool top]] W fun e w' => e = .returned (.bool r) ∧ Below W.heap.size W w') := fun f h1 W h => (RRight_any (c := c) (hA.1.kept h) lo hi top (Nat.le_trans h1 (by decide)) (fitS_key f) (Nat.le_trans f.1 (by decide))).mono fun e w' ⟨⟨v, he, hv⟩, hb⟩ => ⟨by rw [he, bool_one hv hr], hb⟩
  have cRi : FitS L → ∀ W, Below w.heap.size w W → Hid (Calls Try.prog 9 #[.slice A L.length c] W fun e w' => e = .returned (.bool s) ∧ Below W.heap.size W w') := fun f W h => (RRise_any (c := c) (hA.1.kept h) (fitS_key f) (Nat.le_trans f.1 (by decide))).mono fun e w' ⟨⟨v, he, hv⟩, hb⟩ => ⟨by rw [he, bool_one hv hs], hb⟩
  have cSp : FitS L → SRise L → lo.size ≤ 300 → hi.size ≤ 300 → ∀ (k : Nat) W, Below w.heap.size w W → Hid (Calls Try.prog 10 #[.slice A L.length c, .int .i64 (k : Int), .agg #[.string lo, .string hi, .bool top]] W fun e w' => e = .returned (.tuple #[.agg #[.string (spanS L k lo hi top).1.1, .string (spanS L k lo hi top).1.2.1, .bool (spanS L k lo hi top).1.2.2], .bool (spanS L k lo hi top).2]) ∧ Below W.heap.size W w') := fun f hp h1 h2 k W h => Span_any (c := c) (hA.kept h) k lo hi top (by omega) (by omega) (fitS_key3 f) (srise_iff.1 hp) (Nat.le_trans f.1 (by decide))
  have cWa : FitS L → SRise L → key.size ≤ 300 → ∀ W, Below w.heap.size w W → Hid (Calls Try.prog 12 #[.slice A L.length c, .string key] W fun e w' => e = .returned (.int .i64 (wayS L key : Int)) ∧ Below W.heap.size W w') := fun f hp h1 W h => Way_any (c := c) (hA.kept h) key (by omega) (fitS_key3 f) (srise_iff.1 hp) (Nat.le_trans f.1 (by decide))
  have cIn : lo.size ≤ 300 → key.size ≤ 300 → ∀ W, Hid (Calls Try.prog 14 #[.agg #[.string lo, .string hi, .bool top], .string key] W fun e w' => e = .returned (.bool (inB lo hi top key)) ∧ Below W.heap.size W w') := fun h1 h2 W => RIn_any lo hi top key W (Nat.le_trans h1 (by decide)) (Nat.le_trans h2 (by decide))
  have cEm : lo.size ≤ 300 → ∀ W, Hid (Calls Try.prog 15 #[.agg #[.string lo, .string hi, .bool top]] W fun e w' => e = .returned (.bool (emptyB lo hi top)) ∧ Below W.heap.size W w') := fun h1 W => REmpty_any lo hi top W (Nat.le_trans h1 (by decide))
  have HSZ : Hid (FitS L → lo.size ≤ 300 → ∀ k : Nat, (spanS L k lo hi top).1.1.size ≤ maxLen) := fun f h1 k => spanS_size (fitS_key f) (Nat.le_trans h1 (by decide)) k hi top
  have HGA := Lib.hid hga
  have HSS := Lib.hid hs
  have H1 : Hid (SRise L → ∀ k : Nat, k ≤ L.length → ((spanS L k lo hi top).2 && inB (spanS L k lo hi top).1.1 (spanS L k lo hi top).1.2.1 (spanS L k lo hi top).1.2.2 key) = (decide (k = wayS L key) && inB lo hi top key)) := fun h k hk => spanS_one (srise_iff.1 h) k hk lo hi top key
  have H2 : Hid (r = true → emptyB lo hi top = false → ∀ k : Nat, k ≤ L.length → (spanS L k lo hi top).2 = true) := fun h he k hk => spanS_all (hr.1 h) he k hk
  have hfl : FitS L → L.length ≤ 80 := fun f => f.1
  have hwl := wayS_le L key
  generalize inB lo hi top key = iv at *
  generalize emptyB lo hi top = ev at *
  generalize hsp : (fun k : Nat => spanS L k lo hi top) = sp at *
  have HSP : ∀ k : Nat, spanS L k lo hi top = sp k := fun k => by rw [← hsp]
  simp only [HSP] at cSp H1 H2 HSZ
  generalize wayS L key = wy at *
  clear hA lA hga hr hs hsp HSP
  generalize L.length = n at *
  go_enter Try.func4, Try.ntmps4
  go_upto_region 1 with fail
  have hx := heap_alloc_new w (.cells #[.string lo, .string hi, .bool top] 24)
  have hb0 : Below w.heap.size w (w.alloc (.cells #[.string lo, .string hi, .bool top] 24)) := (Below.refl _ _).alloc (Nat.le_refl _) _
  generalize w.alloc (.cells #[.string lo, .string hi, .bool top] 24) = w1 at *
  have HB := Lib.hid hb0
  obtain ⟨g, hg⟩ : ∃ g, g = w.heap.size := ⟨_, rfl⟩
  simp only [← hg]
  rw [← hg] at hx
  have HX := Lib.hid hx
  clear hx hb0 hg
  go_cut [19] (fun tv wx => tv = .bool (ga || !s) ∧ Hid (Below w.heap.size w wx) ∧ Hid (wx.heap[g]? = some (.cells #[.string lo, .string hi, .bool top] 24 (0, 0))))
  case first =>
    obtain ⟨d0, d1, d2⟩ := box3 HX.out
    clear cA cRR cSp cWa cIn cEm HSZ HSS H1 H2
    cases ga with
    | true =>
      go_wp2_with (go_at_call 5; refine (cG _ HB.out).out.mono ?_; rintro e w2 ⟨rfl, hb⟩)
      go_meet
      exact ⟨rfl, HB.out.trans (hb.mono HB.out.size), kept3 HX.out hb⟩
    | false =>
      have f : FitS L ∧ key.size ≤ 300 ∧ lo.size ≤ 300 ∧ hi.size ≤ 300 := Classical.not_not.1 fun h => by cases HGA.out.2 h
      replace cRi := cRi f.1
      clear f HGA hfl
      go_wp2_with (first
        | (go_at_call 5; refine (cG _ HB.out).out.mono ?_; rintro e w2 ⟨rfl, hb⟩; replace HX := Lib.hid (kept3 HX.out hb); replace HB := Lib.hid (HB.out.trans (hb.mono HB.out.size)); clear hb d0 d1 d2)
        | (go_at_call 9; refine (cRi _ HB.out).out.mono ?_; rintro e w4 ⟨rfl, hb⟩; replace HX := Lib.hid (kept3 HX.out hb); replace HB := Lib.hid (HB.out.trans (hb.mono HB.out.size)); clear hb))
      go_meet
      exact ⟨rfl, HB, HX⟩
  case rest =>
  clear HB HX cG
  obtain ⟨rfl, HB, HX⟩ := hcut
  obtain ⟨tb, htb⟩ : ∃ tb, tb = (ga || !s) := ⟨_, rfl⟩
  rw [← htb]
  cases tb with
  | true =>
    clear cRR cRi cSp cWa cIn cEm HSZ HGA HSS H1 H2 htb
    go_wp2_with (go_at_call 6; refine (cA _).out.mono ?_; rintro e w' ⟨rfl, hb⟩)
    go_ret
    exact ⟨rfl, HB.out.trans (hb.mono HB.out.size)⟩
  | false =>
    obtain ⟨rfl, rfl⟩ : ga = false ∧ s = true := by simpa using htb.symm
    have f : FitS L ∧ key.size ≤ 300 ∧ lo.size ≤ 300 ∧ hi.size ≤ 300 := Classical.not_not.1 fun h => by cases HGA.out.2 h
    have hp : SRise L := HSS.out.1 rfl
    replace cRR := cRR f.1 f.2.2.1
    replace cSp := cSp f.1 hp f.2.2.1 f.2.2.2
    replace cWa := cWa f.1 hp f.2.1
    replace cIn := cIn f.2.2.1 f.2.1
    replace cEm := cEm f.2.2.1
    have HSZ2 := Lib.hid (HSZ.out f.1 f.2.2.1)
    have H3 := Lib.hid (H1.out hp)
    have hn80 : n ≤ 80 := hfl f.1
    have hkey : key.size ≤ maxLen := Nat.le_trans f.2.1 (by decide)
    have HKEY := Lib.hid hkey
    clear HSZ HGA HSS htb f hp H1 cRi hfl hkey
    go_upto_block 0 with (go_at_call 12; refine (cWa _ HB.out).out.mono ?_; rintro e w5 ⟨rfl, hb⟩; replace HX := Lib.hid (kept3 HX.out hb); replace HB := Lib.hid (HB.out.trans (hb.mono HB.out.size)); clear hb)
    clear cWa
    go_wp2_with fail
    go_loopg [8] (n + 1) (fun gk iv wr => ∃ k : Nat, k ≤ n + 1 ∧ gk = n + 1 - k ∧ iv = .int .i64 (k : Int) ∧ Hid (Below w.heap.size w wr) ∧ Hid (wr.heap[g]? = some (.cells #[.string lo, .string hi, .bool top] 24 (0, 0))))
    case atStart => exact ⟨0, Nat.zero_le _, rfl, rfl, HB, HX⟩
    case round =>
      clear HB HX
      obtain ⟨k, hk, rfl, rfl, HB, HX⟩ := hrel
      by_cases hlt : k ≤ n
      · have E3 := H3.out k hlt
        have E2 : Hid (r = true → ev = false → (sp k).2 = true) := fun h1 h2 => H2.out h1 h2 k hlt
        have cI2 := fun W => Lib.hid (RIn_any (sp k).1.1 (sp k).1.2.1 (sp k).1.2.2 key W (HSZ2.out k) HKEY.out)
        have cS2 := cSp k
        have hw2 : IntKind.i64.wrap ((k : Int) + 1) = ((k + 1 : Nat) : Int) := by rw [IntKind.wrap_i64]; omega
        generalize sp k = q at *
        obtain ⟨⟨qa, qe, qt⟩, qb⟩ := q
        simp only at cS2 cI2 E3 E2
        generalize inB qa qe qt key = kv at *
        obtain ⟨d0, d1, d2⟩ := box3 HX.out
        go_upto_region 8 with (go_at_call 10; refine (cS2 _ HB.out).out.mono ?_; rintro e w6 ⟨rfl, hb⟩; replace HX := Lib.hid (kept3 HX.out hb); replace HB := Lib.hid (HB.out.trans (hb.mono HB.out.size)); clear hb d0 d1 d2 cS2)
        have hb1 : Below w6.heap.size w6 (w6.alloc (.cells #[.string qa, .string qe, .bool qt] 24)) := (Below.refl _ _).alloc (Nat.le_refl _) _
        have HX1 : Hid ((w6.alloc (.cells #[.string qa, .string qe, .bool qt] 24)).heap[w6.heap.size]? = some (.cells #[.string qa, .string qe, .bool qt] 24 (0, 0))) := heap_alloc_new w6 _
        replace HX := Lib.hid (kept3 HX.out hb1)
        replace HB := Lib.hid (HB.out.trans (hb1.mono HB.out.size))
        generalize w6.alloc (.cells #[.string qa, .string qe, .bool qt] 24) = w7 at *
        obtain ⟨g1, hg1⟩ : ∃ g1, g1 = w6.heap.size := ⟨_, rfl⟩
        simp only [← hg1]
        rw [← hg1] at HX1
        clear hg1 hb1
        go_cut [8, 65] (fun iv2 tv wx => iv2 = .int .i64 (k : Int) ∧ tv = .bool false ∧ Hid (Below w.heap.size w wx) ∧ Hid (wx.heap[g]? = some (.cells #[.string lo, .string hi, .bool top] 24 (0, 0))))
        case first =>
          obtain ⟨d0, d1, d2⟩ := box3 HX.out
          obtain ⟨e0, e1, e2⟩ := box3 HX1.out
          clear cSp H3 H2 HSZ2 HKEY HX1
          by_cases hkw : k = wy
          · have hkd : ∀ w, (binOp .eql 3 (.int .i64 (k : Int)) (.int .i64 (wy : Int))).run Try.prog w = .ok (.bool true) w := fun w => by
              rw [hkw]
              simp [go_sem]
            have HKW := Lib.hid hkw
            have hk1 : k ≤ wy := by omega
            have hk2 : wy ≤ k := by omega
            simp only [hkw, decide_true, Bool.true_and] at E3
            clear hkw
            cases qb with
            | true =>
              obtain rfl : kv = iv := by simpa using E3
              clear E3 E2
              cases kv
              all_goals
                go_wp2_with (first
                  | (go_at_call_of 14 (Value.string qa); refine (cI2 _).out.mono ?_; rintro e w8 ⟨rfl, hb⟩; replace HX := Lib.hid (kept3 HX.out hb); replace HB := Lib.hid (HB.out.trans (hb.mono HB.out.size)); replace d0 := (box3 HX.out).1; replace d1 := (box3 HX.out).2.1; replace d2 := (box3 HX.out).2.2; clear hb cI2)
                  | (go_at_call 14; refine (cIn _).out.mono ?_; rintro e w8 ⟨rfl, hb⟩; replace HX := Lib.hid (kept3 HX.out hb); replace HB := Lib.hid (HB.out.trans (hb.mono HB.out.size)); replace d0 := (box3 HX.out).1; replace d1 := (box3 HX.out).2.1; replace d2 := (box3 HX.out).2.2; clear hb)
                  | (go_at_call 8; refine (cRR _ HB.out).out.mono ?_; rintro e w8 ⟨rfl, hb⟩; replace HX := Lib.hid (kept3 HX.out hb); replace HB := Lib.hid (HB.out.trans (hb.mono HB.out.size)); replace d0 := (box3 HX.out).1; replace d1 := (box3 HX.out).2.1; replace d2 := (box3 HX.out).2.2; clear hb)
                  | (go_at_call 15; refine (cEm _).out.mono ?_; rintro e w8 ⟨rfl, hb⟩; replace HX := Lib.hid (kept3 HX.out hb); replace HB := Lib.hid (HB.out.trans (hb.mono HB.out.size)); clear hb))
                go_meet
                exact ⟨by first | rfl | rw [HKW.out], rfl, HB, HX⟩
            | false =>
              obtain rfl : iv = false := by simpa using E3.symm
              clear E3
              cases r with
              | false =>
                clear E2
                go_wp2_with (first
                  | (go_at_call_of 14 (Value.string qa); refine (cI2 _).out.mono ?_; rintro e w8 ⟨rfl, hb⟩; replace HX := Lib.hid (kept3 HX.out hb); replace HB := Lib.hid (HB.out.trans (hb.mono HB.out.size)); replace d0 := (box3 HX.out).1; replace d1 := (box3 HX.out).2.1; replace d2 := (box3 HX.out).2.2; clear hb cI2)
                  | (go_at_call 14; refine (cIn _).out.mono ?_; rintro e w8 ⟨rfl, hb⟩; replace HX := Lib.hid (kept3 HX.out hb); replace HB := Lib.hid (HB.out.trans (hb.mono HB.out.size)); replace d0 := (box3 HX.out).1; replace d1 := (box3 HX.out).2.1; replace d2 := (box3 HX.out).2.2; clear hb)
                  | (go_at_call 8; refine (cRR _ HB.out).out.mono ?_; rintro e w8 ⟨rfl, hb⟩; replace HX := Lib.hid (kept3 HX.out hb); replace HB := Lib.hid (HB.out.trans (hb.mono HB.out.size)); replace d0 := (box3 HX.out).1; replace d1 := (box3 HX.out).2.1; replace d2 := (box3 HX.out).2.2; clear hb)
                  | (go_at_call 15; refine (cEm _).out.mono ?_; rintro e w8 ⟨rfl, hb⟩; replace HX := Lib.hid (kept3 HX.out hb); replace HB := Lib.hid (HB.out.trans (hb.mono HB.out.size)); clear hb))
                go_meet
                exact ⟨by first | rfl | rw [HKW.out], rfl, HB, HX⟩
              | true =>
                cases ev with
                | false => exact absurd (E2.out rfl rfl) (by simp)
                | true =>
                  clear E2
                  go_wp2_with (first
                    | (go_at_call_of 14 (Value.string qa); refine (cI2 _).out.mono ?_; rintro e w8 ⟨rfl, hb⟩; replace HX := Lib.hid (kept3 HX.out hb); replace HB := Lib.hid (HB.out.trans (hb.mono HB.out.size)); replace d0 := (box3 HX.out).1; replace d1 := (box3 HX.out).2.1; replace d2 := (box3 HX.out).2.2; clear hb cI2)
                    | (go_at_call 14; refine (cIn _).out.mono ?_; rintro e w8 ⟨rfl, hb⟩; replace HX := Lib.hid (kept3 HX.out hb); replace HB := Lib.hid (HB.out.trans (hb.mono HB.out.size)); replace d0 := (box3 HX.out).1; replace d1 := (box3 HX.out).2.1; replace d2 := (box3 HX.out).2.2; clear hb)
                    | (go_at_call 8; refine (cRR _ HB.out).out.mono ?_; rintro e w8 ⟨rfl, hb⟩; replace HX := Lib.hid (kept3 HX.out hb); replace HB := Lib.hid (HB.out.trans (hb.mono HB.out.size)); replace d0 := (box3 HX.out).1; replace d1 := (box3 HX.out).2.1; replace d2 := (box3 HX.out).2.2; clear hb)
                    | (go_at_call 15; refine (cEm _).out.mono ?_; rintro e w8 ⟨rfl, hb⟩; replace HX := Lib.hid (kept3 HX.out hb); replace HB := Lib.hid (HB.out.trans (hb.mono HB.out.size)); clear hb))
                  go_meet
                  exact ⟨by first | rfl | rw [HKW.out], rfl, HB, HX⟩
          · have hkd : ¬ ((k : Int) = (wy : Int)) := by omega
            simp only [hkw, decide_false, Bool.false_and] at E3
            cases qb with
            | true =>
              obtain rfl : kv = false := by simpa using E3
              clear E3 E2
              go_wp2_with (first
                | (go_at_call_of 14 (Value.string qa); refine (cI2 _).out.mono ?_; rintro e w8 ⟨rfl, hb⟩; replace HX := Lib.hid (kept3 HX.out hb); replace HB := Lib.hid (HB.out.trans (hb.mono HB.out.size)); replace d0 := (box3 HX.out).1; replace d1 := (box3 HX.out).2.1; replace d2 := (box3 HX.out).2.2; clear hb cI2)
                | (go_at_call 14; refine (cIn _).out.mono ?_; rintro e w8 ⟨rfl, hb⟩; replace HX := Lib.hid (kept3 HX.out hb); replace HB := Lib.hid (HB.out.trans (hb.mono HB.out.size)); replace d0 := (box3 HX.out).1; replace d1 := (box3 HX.out).2.1; replace d2 := (box3 HX.out).2.2; clear hb)
                | (go_at_call 8; refine (cRR _ HB.out).out.mono ?_; rintro e w8 ⟨rfl, hb⟩; replace HX := Lib.hid (kept3 HX.out hb); replace HB := Lib.hid (HB.out.trans (hb.mono HB.out.size)); replace d0 := (box3 HX.out).1; replace d1 := (box3 HX.out).2.1; replace d2 := (box3 HX.out).2.2; clear hb)
                | (go_at_call 15; refine (cEm _).out.mono ?_; rintro e w8 ⟨rfl, hb⟩; replace HX := Lib.hid (kept3 HX.out hb); replace HB := Lib.hid (HB.out.trans (hb.mono HB.out.size)); clear hb))
              go_meet
              exact ⟨rfl, rfl, HB, HX⟩
            | false =>
              clear E3
              cases r with
              | false =>
                clear E2
                go_wp2_with (first
                  | (go_at_call_of 14 (Value.string qa); refine (cI2 _).out.mono ?_; rintro e w8 ⟨rfl, hb⟩; replace HX := Lib.hid (kept3 HX.out hb); replace HB := Lib.hid (HB.out.trans (hb.mono HB.out.size)); replace d0 := (box3 HX.out).1; replace d1 := (box3 HX.out).2.1; replace d2 := (box3 HX.out).2.2; clear hb cI2)
                  | (go_at_call 14; refine (cIn _).out.mono ?_; rintro e w8 ⟨rfl, hb⟩; replace HX := Lib.hid (kept3 HX.out hb); replace HB := Lib.hid (HB.out.trans (hb.mono HB.out.size)); replace d0 := (box3 HX.out).1; replace d1 := (box3 HX.out).2.1; replace d2 := (box3 HX.out).2.2; clear hb)
                  | (go_at_call 8; refine (cRR _ HB.out).out.mono ?_; rintro e w8 ⟨rfl, hb⟩; replace HX := Lib.hid (kept3 HX.out hb); replace HB := Lib.hid (HB.out.trans (hb.mono HB.out.size)); replace d0 := (box3 HX.out).1; replace d1 := (box3 HX.out).2.1; replace d2 := (box3 HX.out).2.2; clear hb)
                  | (go_at_call 15; refine (cEm _).out.mono ?_; rintro e w8 ⟨rfl, hb⟩; replace HX := Lib.hid (kept3 HX.out hb); replace HB := Lib.hid (HB.out.trans (hb.mono HB.out.size)); clear hb))
                go_meet
                exact ⟨rfl, rfl, HB, HX⟩
              | true =>
                cases ev with
                | false => exact absurd (E2.out rfl rfl) (by simp)
                | true =>
                  clear E2
                  go_wp2_with (first
                    | (go_at_call_of 14 (Value.string qa); refine (cI2 _).out.mono ?_; rintro e w8 ⟨rfl, hb⟩; replace HX := Lib.hid (kept3 HX.out hb); replace HB := Lib.hid (HB.out.trans (hb.mono HB.out.size)); replace d0 := (box3 HX.out).1; replace d1 := (box3 HX.out).2.1; replace d2 := (box3 HX.out).2.2; clear hb cI2)
                    | (go_at_call 14; refine (cIn _).out.mono ?_; rintro e w8 ⟨rfl, hb⟩; replace HX := Lib.hid (kept3 HX.out hb); replace HB := Lib.hid (HB.out.trans (hb.mono HB.out.size)); replace d0 := (box3 HX.out).1; replace d1 := (box3 HX.out).2.1; replace d2 := (box3 HX.out).2.2; clear hb)
                    | (go_at_call 8; refine (cRR _ HB.out).out.mono ?_; rintro e w8 ⟨rfl, hb⟩; replace HX := Lib.hid (kept3 HX.out hb); replace HB := Lib.hid (HB.out.trans (hb.mono HB.out.size)); replace d0 := (box3 HX.out).1; replace d1 := (box3 HX.out).2.1; replace d2 := (box3 HX.out).2.2; clear hb)
                    | (go_at_call 15; refine (cEm _).out.mono ?_; rintro e w8 ⟨rfl, hb⟩; replace HX := Lib.hid (kept3 HX.out hb); replace HB := Lib.hid (HB.out.trans (hb.mono HB.out.size)); clear hb))
                  go_meet
                  exact ⟨rfl, rfl, HB, HX⟩
        case rest =>
        clear HB HX HX1
        obtain ⟨rfl, rfl, HB, HX⟩ := hcut
        clear cI2 E3 E2
        go_wp2_with fail
        go_roundg (n + 1 - (k + 1))
        case measure => omega
        case rel => exact ⟨k + 1, by omega, rfl, by go_num, HB, HX⟩
      · obtain rfl : k = n + 1 := by omega
        clear hlt cSp cRR cIn cEm
        go_wp2_with (go_at_call 6; refine (cA _).out.mono ?_; rintro e w' ⟨rfl, hb⟩; replace HB := Lib.hid (HB.out.trans (hb.mono HB.out.size)); clear hb)
        go_ret
        exact ⟨rfl, HB.out⟩
end Fa
end Go.Proofs.Ytokmnjbcnapmcaa
