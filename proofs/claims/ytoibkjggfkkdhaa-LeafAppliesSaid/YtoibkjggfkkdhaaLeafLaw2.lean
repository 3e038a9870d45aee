/-
  leaf's laws: LeafApplies, LeafMap.
-/
import Derived.Test.YtoibkjggfkkdhaaLeafLaw
namespace Go.Proofs.Ytoibkjggfkkdhaa
open Go.RowKit
namespace Lf
open Mem Lx Bu
set_option maxRecDepth 100000 in
set_option maxHeartbeats 4000000 in
theorem LeafApplies_walk (A : Option Addr) (c : Nat) (L : List Pr) (B : Option Addr) (d : Nat) (M : List Mg) (w : World) (hA : PC w A c L) (lA : L.length ≤ maxLen) (hB : RC MgK w B d M) (lB : M.length ≤ maxLen) :
    Calls Try.prog 4 #[.slice A L.length c, .slice B M.length d] w fun e w' => e = .returned (.bool true) ∧ Below w.heap.size w w' := by
  have cA := fun W => Lib.hid (awake_any W)
  obtain ⟨ga, hga⟩ := bool_of (¬ (FitP L ∧ FitM M))
  obtain ⟨r, hr⟩ := bool_of (PRise L)
  have cG : Hid (Calls Try.prog 7 #[.slice A L.length c, .slice B M.length d] w fun e w' => e = .returned (.bool ga) ∧ w' = w) := (great_any (c := c) (c' := d) hA.1 hB.1 lA lB).mono fun e w' ⟨⟨v, he, hv⟩, hw⟩ => ⟨by
    have : v = ga := by
      cases v <;> cases ga <;> simp_all
    rw [he, this], hw⟩
  have cRR : FitP L → Hid (Calls Try.prog 10 #[.slice A L.length c] w fun e w' => e = .returned (.bool r) ∧ Below w.heap.size w w') := fun f => (RRight_any (c := c) hA.1 (fitP_key f) (Nat.le_trans f.1 (by decide))).mono fun e w' ⟨⟨v, he, hv⟩, hb⟩ => ⟨by rw [he, bool_one hv hr], hb⟩
  have cAp : FitP L → FitM M → PRise L → ∀ W, Below w.heap.size w W → Hid (Calls Try.prog 15 #[.slice A L.length c, .slice B M.length d] W fun e w' => (∃ A2 c2, e = .returned (.slice A2 (applyP L M).length c2) ∧ PC w' A2 c2 (applyP L M)) ∧ Below W.heap.size W w') := fun f g hp W h => Apply_any (c := c) (c' := d) (hA.kept h) (hB.kept h) (fitP_key3 f) (fitM_key3 g) (prise_iff.1 hp) (Nat.le_trans f.1 (by decide)) (Nat.le_trans g.1 (by decide))
  have cRA : FitP L → FitM M → ∀ W, Below w.heap.size w W → Hid (Calls Try.prog 16 #[.slice A L.length c, .slice B M.length d] W fun e w' => (∃ A2 c2, e = .returned (.slice A2 (applyP L M).length c2) ∧ PC w' A2 c2 (applyP L M)) ∧ Below W.heap.size W w') := fun f g W h => RApply_any (c := c) (c' := d) (hA.kept h) (hB.kept h).1 (fitP_key f) (fitM_key g) (by have := f.1; have := g.1; omega)
  have cSX : FitP L → FitM M → ∀ (W : World) (A1 A2 : Option Addr) (c1 c2 : Nat), PL W A1 (applyP L M) → PL W A2 (applyP L M) → Hid (Calls Try.prog 12 #[.slice A1 (applyP L M).length c1, .slice A2 (applyP L M).length c2] W fun e w' => e = .returned (.bool true) ∧ Below W.heap.size W w') := fun f g W A1 A2 c1 c2 g1 g2 => by
    have := applyP_len M L
    have h1 := f.1
    have h2 := g.1
    exact (RSame_any (c := c1) (c' := c2) g1 g2 (by omega) (by omega)).mono fun e w' ⟨⟨v, he, hv⟩, hb⟩ => ⟨by rw [he, hv.2 rfl], hb⟩
  have cRX : FitP L → FitM M → PRise L → ∀ (W : World) (A1 : Option Addr) (c1 : Nat), PL W A1 (applyP L M) → Hid (Calls Try.prog 10 #[.slice A1 (applyP L M).length c1] W fun e w' => e = .returned (.bool true) ∧ Below W.heap.size W w') := fun f g hp W A1 c1 g1 => by
    have := applyP_len M L
    have h1 := f.1
    have h2 := g.1
    exact (RRight_any (c := c1) g1 (key_apply (fitP_key f) (fitM_key g)) (by omega)).mono fun e w' ⟨⟨v, he, hv⟩, hb⟩ => ⟨by rw [he, hv.2 (prise_iff.2 ((prise_iff.1 hp).apply))], hb⟩
  have cSL : FitP L → ∀ (W : World) (A2 : Option Addr) (c2 : Nat), Below w.heap.size w W → PL W A2 L → Hid (Calls Try.prog 12 #[.slice A L.length c, .slice A2 L.length c2] W fun e w' => e = .returned (.bool true) ∧ Below W.heap.size W w') := fun f W A2 c2 h g2 => (RSame_any (c := c) (c' := c2) (hA.1.kept h) g2 (Nat.le_trans f.1 (by decide)) (Nat.le_trans f.1 (by decide))).mono fun e w' ⟨⟨v, he, hv⟩, hb⟩ => ⟨by rw [he, hv.2 rfl], hb⟩
  have HA := Lib.hid hA
  have HGA := Lib.hid hga
  have HRR := Lib.hid hr
  have hxl : FitP L → FitM M → (applyP L M).length ≤ 240 := fun f g => by
    have := applyP_len M L
    have h1 := f.1
    have h2 := g.1
    omega
  generalize applyP L M = X at *
  generalize hx : X.length = x at *
  have HXL := Lib.hid hx
  clear hA hB lA lB hga hr hx
  generalize hn : L.length = n at *
  have HN := Lib.hid hn
  generalize M.length = m at *
  clear hn
  go_enter Try.func4, Try.ntmps4
  go_upto_region 1 with fail
  go_cut [14] (fun tv wx => tv = .bool (ga || !r) ∧ Hid (Below w.heap.size w wx))
  case first =>
    have HW0 : Hid (Below w.heap.size w w) := Below.refl _ _
    clear cA cAp cRA cSX cRX cSL HRR HXL hxl
    cases ga with
    | true =>
      go_wp2_with (go_at_call 7; refine cG.out.mono ?_; rintro e w' ⟨rfl, rfl⟩)
      go_meet
      exact ⟨rfl, HW0⟩
    | false =>
      have f : FitP L ∧ FitM M := Classical.not_not.1 fun h => by cases HGA.out.2 h
      replace cRR := cRR f.1
      clear f HGA
      go_wp2_with (first
        | (go_at_call 7; refine cG.out.mono ?_; rintro e w' ⟨rfl, rfl⟩)
        | (go_at_call 10; refine cRR.out.mono ?_; rintro e w' ⟨rfl, hb⟩; have HWx := Lib.hid hb; clear hb))
      go_meet
      exact ⟨rfl, HWx⟩
  case rest =>
  obtain ⟨rfl, HW⟩ := hcut
  clear cG cRR
  obtain ⟨tb, htb⟩ : ∃ tb, tb = (ga || !r) := ⟨_, rfl⟩
  rw [← htb]
  cases tb with
  | true =>
    clear cAp cRA cSX cRX cSL HRR HXL HGA htb hxl
    go_wp2_with (go_at_call 8; refine (cA _).out.mono ?_; rintro e w' ⟨rfl, hb⟩)
    go_ret
    exact ⟨rfl, HW.out.trans (hb.mono HW.out.size)⟩
  | false =>
    obtain ⟨rfl, rfl⟩ : ga = false ∧ r = true := by simpa using htb.symm
    have f : FitP L ∧ FitM M := Classical.not_not.1 fun h => by cases HGA.out.2 h
    have hp : PRise L := HRR.out.1 rfl
    replace cAp := cAp f.1 f.2 hp
    replace cRA := cRA f.1 f.2
    replace cSX := cSX f.1 f.2
    replace cRX := cRX f.1 f.2 hp
    replace cSL := cSL f.1
    have hn2 : 0 + n ≤ 1048576 := by
      have := f.1.1
      rw [HN.out] at this
      omega
    clear HGA htb HRR f hp hxl
    have hb3 : Below wc.heap.size wc (wc.alloc (.cells #[] 43)) := (Below.refl _ _).alloc (Nat.le_refl _) _
    have HAL := Lib.hid ((HA.out.kept HW.out).kept hb3).1
    have HV0 : Hid (P3 (wc.alloc (.cells #[] 43)) wc.heap.size (some ⟨wc.heap.size, 0, none⟩) 0 []) := VK.lit (K := PrK) wc wc.heap.size (Nat.le_refl _)
    have hs3 := hb3.size
    have HB3 := Lib.hid hb3
    clear hb3
    go_upto_region 4 with (with_reducible refine wpList_append_allK (K := PrK) Try.underlying22 prinfo rfl (by decide) (by decide) rfl (.tmp 16) (.tmp 17) rfl wc.heap.size (some ⟨wc.heap.size, 0, none⟩) 0 0 [] rfl rfl HV0.out A n c L rfl HN.out HAL.out hn2 hs3 ?_; intro Aw cw w4 hv4 hb4)
    have hb : Below wc.heap.size wc w4 := HB3.out.trans hb4.out
    have HQ : Hid (PL w4 Aw L) := hv4.out.rd
    replace HW := Lib.hid (HW.out.trans (hb.mono HW.out.size))
    clear HAL HV0 hn2 hs3 HB3 hv4 hb4 hb
    go_upto_region 5 with (go_at_call 15; refine (cAp _ HW.out).out.mono ?_; rintro e w5 ⟨⟨A1, c1, rfl, h1⟩, hb⟩)
    have HX1 := Lib.hid h1.1
    replace HQ := Lib.hid (HQ.out.kept hb)
    replace HW := Lib.hid (HW.out.trans (hb.mono HW.out.size))
    clear h1 hb cAp
    go_wp2_with (first
      | (go_at_call 16; refine (cRA _ HW.out).out.mono ?_; rintro e w6 ⟨⟨A2, c2, rfl, h1⟩, hb⟩; have HX2 := Lib.hid h1.1; replace HQ := Lib.hid (HQ.out.kept hb); replace HX1 := Lib.hid (HX1.out.kept hb); replace HW := Lib.hid (HW.out.trans (hb.mono HW.out.size)); clear h1 hb cRA)
      | (go_at_call_of 12 (Value.slice A1 x c1); refine (cSX _ _ _ _ _ HX1.out HX2.out).out.mono ?_; rintro e w' ⟨rfl, hb⟩; replace HQ := Lib.hid (HQ.out.kept hb); replace HX1 := Lib.hid (HX1.out.kept hb); replace HW := Lib.hid (HW.out.trans (hb.mono HW.out.size)); clear hb cSX HX2)
      | (go_at_call 10; refine (cRX _ _ _ HX1.out).out.mono ?_; rintro e w' ⟨rfl, hb⟩; replace HQ := Lib.hid (HQ.out.kept hb); replace HW := Lib.hid (HW.out.trans (hb.mono HW.out.size)); clear hb cRX HX1)
      | (go_at_call_of 12 (Value.slice Aw n cw); refine (cSL _ _ _ HW.out HQ.out).out.mono ?_; rintro e w' ⟨rfl, hb⟩; replace HW := Lib.hid (HW.out.trans (hb.mono HW.out.size)); clear hb cSL HQ)
      | (go_at_call 8; refine (cA _).out.mono ?_; rintro e w' ⟨rfl, hb⟩; replace HW := Lib.hid (HW.out.trans (hb.mono HW.out.size)); clear hb))
    go_ret
    exact ⟨rfl, HW.out⟩
/-- what is said of a key by the first k messages -/
def saidP (L : List Pr) (M : List Mg) (key : ByteArray) (k : Nat) : Option ByteArray := (M.take k).foldl (sayP key) (getP L key)
theorem saidP_next {L : List Pr} {M : List Mg} {key : ByteArray} {k : Nat} {m : Mg} (hm : M[k]? = some m) : saidP L M key (k + 1) = sayP key (saidP L M key k) m := by
  have hk := (List.getElem?_eq_some_iff.1 hm).1
  have e : M[k] = m := (List.getElem?_eq_some_iff.1 hm).2
  unfold saidP
  rw [List.take_succ_eq_append_getElem hk, List.foldl_append, e]
  rfl
/-- what the law holds of it: the value, whether there is one -/
def Holds2 (s : Option ByteArray) (v : ByteArray) (b : Bool) : Prop := b = s.isSome ∧ (∀ u, s = some u → v = u)
set_option maxRecDepth 100000 in
set_option maxHeartbeats 4000000 in
theorem LeafMap_walk (A : Option Addr) (c : Nat) (L : List Pr) (B : Option Addr) (d : Nat) (M : List Mg) (key : ByteArray) (w : World) (hA : PC w A c L) (lA : L.length ≤ maxLen) (hB : RC MgK w B d M) (lB : M.length ≤ maxLen) :
    Calls Try.prog 5 #[.slice A L.length c, .slice B M.length d, .string key] w fun e w' => e = .returned (.bool true) ∧ Below w.heap.size w w' := by
  have cA := fun W => Lib.hid (awake_any W)
  obtain ⟨ga, hga⟩ := bool_of (¬ (FitP L ∧ FitM M))
  obtain ⟨r, hr⟩ := bool_of (PRise L)
  have cG : Hid (Calls Try.prog 7 #[.slice A L.length c, .slice B M.length d] w fun e w' => e = .returned (.bool ga) ∧ w' = w) := (great_any (c := c) (c' := d) hA.1 hB.1 lA lB).mono fun e w' ⟨⟨v, he, hv⟩, hw⟩ => ⟨by
    have : v = ga := by
      cases v <;> cases ga <;> simp_all
    rw [he, this], hw⟩
  have cRR : FitP L → Hid (Calls Try.prog 10 #[.slice A L.length c] w fun e w' => e = .returned (.bool r) ∧ Below w.heap.size w w') := fun f => (RRight_any (c := c) hA.1 (fitP_key f) (Nat.le_trans f.1 (by decide))).mono fun e w' ⟨⟨v, he, hv⟩, hb⟩ => ⟨by rw [he, bool_one hv hr], hb⟩
  have cRG : FitP L → ∀ W, Below w.heap.size w W → Hid (Calls Try.prog 14 #[.slice A L.length c, .string key] W fun e w' => (∃ v b, e = .returned (.tuple #[.string v, .bool b]) ∧ Holds2 (saidP L M key 0) v b) ∧ w' = W) := fun f W h => (RGet_any (c := c) (hA.1.kept h) key (Nat.le_trans f.1 (by decide))).mono fun e w' ⟨he, hw⟩ => ⟨⟨_, _, he, rfl, fun u hu => by
    have : getP L key = some u := hu
    rw [this]
    rfl⟩, hw⟩
  have cAp : FitP L → FitM M → PRise L → ∀ W, Below w.heap.size w W → Hid (Calls Try.prog 15 #[.slice A L.length c, .slice B M.length d] W fun e w' => (∃ A2 c2, e = .returned (.slice A2 (applyP L M).length c2) ∧ PC w' A2 c2 (applyP L M)) ∧ Below W.heap.size W w') := fun f g hp W h => Apply_any (c := c) (c' := d) (hA.kept h) (hB.kept h) (fitP_key3 f) (fitM_key3 g) (prise_iff.1 hp) (Nat.le_trans f.1 (by decide)) (Nat.le_trans g.1 (by decide))
  have cGt : FitP L → FitM M → PRise L → ∀ (W : World) (A1 : Option Addr) (c1 : Nat), PC W A1 c1 (applyP L M) → Hid (Calls Try.prog 13 #[.slice A1 (applyP L M).length c1, .string key] W fun e w' => e = .returned (.tuple #[.string ((saidP L M key M.length).getD ⟨#[]⟩), .bool (saidP L M key M.length).isSome]) ∧ Below W.heap.size W w') := fun f g hp W A1 c1 h => by
    have := applyP_len M L
    have h1 := f.1
    have h2 := g.1
    have hq : getP (applyP L M) key = saidP L M key M.length := by
      rw [get_applyP key (prise_iff.1 hp)]
      unfold saidP
      rw [List.take_length]
    have := Get_any h key (key_apply (fitP_key3 f) (fitM_key3 g)) ((prise_iff.1 hp).apply) (by omega)
    rw [hq] at this
    exact this
  have HBM := Lib.hid hB
  have HGA := Lib.hid hga
  have HRR := Lib.hid hr
  have HNX : Hid (∀ (k : Nat) (m : Mg), M[k]? = some m → saidP L M key (k + 1) = sayP key (saidP L M key k) m) := fun k m h => saidP_next h
  obtain ⟨s, hs⟩ : ∃ s : Nat → Option ByteArray, s = saidP L M key := ⟨_, rfl⟩
  rw [← hs] at cRG cGt HNX
  generalize applyP L M = X at *
  generalize X.length = x at *
  have hfm : FitM M → M.length ≤ 120 := fun f => f.1
  clear hA hB lA lB hga hr hs
  generalize L.length = n at *
  generalize hm : M.length = m at *
  have HM := Lib.hid hm
  clear hm
  go_enter Try.func5, Try.ntmps5
  go_upto_region 1 with fail
  go_cut [19] (fun tv wx => tv = .bool (ga || !r) ∧ Hid (Below w.heap.size w wx))
  case first =>
    have HW0 : Hid (Below w.heap.size w w) := Below.refl _ _
    clear cA cAp cRG cGt HRR HNX
    cases ga with
    | true =>
      go_wp2_with (go_at_call 7; refine cG.out.mono ?_; rintro e w' ⟨rfl, rfl⟩)
      go_meet
      exact ⟨rfl, HW0⟩
    | false =>
      have f : FitP L ∧ FitM M := Classical.not_not.1 fun h => by cases HGA.out.2 h
      replace cRR := cRR f.1
      clear f HGA
      go_wp2_with (first
        | (go_at_call 7; refine cG.out.mono ?_; rintro e w' ⟨rfl, rfl⟩)
        | (go_at_call 10; refine cRR.out.mono ?_; rintro e w' ⟨rfl, hb⟩; have HWx := Lib.hid hb; clear hb))
      go_meet
      exact ⟨rfl, HWx⟩
  case rest =>
  obtain ⟨rfl, HW⟩ := hcut
  clear cG cRR
  obtain ⟨tb, htb⟩ : ∃ tb, tb = (ga || !r) := ⟨_, rfl⟩
  rw [← htb]
  cases tb with
  | true =>
    clear cAp cRG cGt HRR HGA HNX htb hfm
    go_wp2_with (go_at_call 8; refine (cA _).out.mono ?_; rintro e w' ⟨rfl, hb⟩)
    go_ret
    exact ⟨rfl, HW.out.trans (hb.mono HW.out.size)⟩
  | false =>
    obtain ⟨rfl, rfl⟩ : ga = false ∧ r = true := by simpa using htb.symm
    have f : FitP L ∧ FitM M := Classical.not_not.1 fun h => by cases HGA.out.2 h
    have hp : PRise L := HRR.out.1 rfl
    replace cAp := cAp f.1 f.2 hp
    replace cRG := cRG f.1
    replace cGt := cGt f.1 f.2 hp
    have hm120 : m ≤ 120 := hfm f.2
    clear HGA htb HRR f hp hfm
    go_upto_region 4 with (go_at_call 14; refine (cRG _ HW.out).out.mono ?_; rintro e w5 ⟨⟨v0, b0, rfl, h0⟩, rfl⟩)
    have HH0 := Lib.hid h0
    clear h0 cRG
    go_upto_block 0 with fail
    go_cut [7, 8] (fun vv bv wx => ∃ (v : ByteArray) (b : Bool), vv = .string v ∧ bv = .bool b ∧ Hid (Holds2 (s m) v b) ∧ Hid (Below w.heap.size w wx))
    case first =>
      go_wp2_with fail
      go_loopg [7, 8, 9] m (fun gk vv bv iv wr => ∃ (k : Nat) (v : ByteArray) (b : Bool), k ≤ m ∧ gk = m - k ∧ iv = .int .i64 (k : Int) ∧ vv = .string v ∧ bv = .bool b ∧ Hid (Holds2 (s k) v b) ∧ Hid (Below w.heap.size w wr))
      case atStart => exact ⟨0, v0, b0, Nat.zero_le _, rfl, rfl, rfl, rfl, HH0, HW⟩
      case round =>
        obtain ⟨k, v, b, hk, rfl, rfl, rfl, rfl, HS, HB⟩ := hrel
        clear HH0 HW
        by_cases hlt : k < m
        · have hkL : k < M.length := by rw [HM.out]; exact hlt
          obtain ⟨y, hyy⟩ : ∃ y, y = M[k] := ⟨_, rfl⟩
          have hy' := nat_len hkL
          rw [← hyy] at hy'
          obtain ⟨bb, o, e, -, c0, c1, c2⟩ := RdK.msg (HBM.out.1.kept HB.out) hy'
          subst e
          have HN2 := Lib.hid (HNX.out k y hy')
          have hw2 : IntKind.i64.wrap ((k : Int) + 1) = ((k + 1 : Nat) : Int) := by rw [IntKind.wrap_i64]; omega
          clear hyy hy' hkL
          by_cases hke : y.1 = key
          · have HS2 : Hid (Holds2 (s (k + 1)) y.2.2 (!y.2.1)) := by
              unfold Hid
              rw [HN2.out]
              unfold sayP
              rw [if_pos hke]
              cases hd : y.2.1 with
              | true => exact ⟨rfl, fun u hu => by simp at hu⟩
              | false => exact ⟨rfl, fun u hu => by simpa using hu⟩
            rw [hke] at c0
            clear hke
            go_upto_region 8 with fail
            have z0 := fun q : Drift.Tide [] wr [] => Drift.Tide.cell c1 (by simp) q
            have z2 := fun q : Drift.Tide [] wr [] => Drift.Tide.cell c2 (by simp) q
            clear c0 c1 c2
            refine Drift.wp_region_drift [] [(0,[]),(1,[]),(2,[]),(3,[]),(4,[]),(5,[]),(6,[]),(7,[]),(8,[]),(9,[]),(10,[]),(11,[]),(12,[])] [] [] (by kernel_rfl) (by kernel_rfl) (by simp) ?_
            simp only [Drift.pick, Drift.opsAt, List.getElem?_toArray, List.getElem?_cons_zero, List.getElem?_cons_succ, List.cons_append, List.nil_append, List.filterMap_nil]
            repeat (refine Drift.walk_step (fun K hK => ?_); go_simp; (refine hK _ ?_; clear hK K))
            refine Drift.walk_nil ?_
            intro w6 hb6 _
            have HB6 : Hid (Below w.heap.size w w6) := HB.out.trans (hb6.mono HB.out.size)
            clear z0 z2 hb6 HB
            simp only [List.length_cons, List.length_nil, List.drop_succ_cons, List.drop_nil, Nat.zero_add, Nat.reduceAdd]
            go_wp2_with fail
            go_roundg (m - (k + 1))
            case measure => omega
            case rel => exact ⟨k + 1, _, _, hlt, rfl, by go_num, rfl, rfl, HS2, HB6⟩
          · have HS2 : Hid (Holds2 (s (k + 1)) v b) := by
              unfold Hid
              rw [HN2.out]
              unfold sayP
              rw [if_neg hke]
              exact HS.out
            have hq2 : (y.1.toList == key.toList) = false := by rw [ba_toList]; simpa using hke
            clear hke
            go_wp2_with fail
            go_roundg (m - (k + 1))
            case measure => omega
            case rel => exact ⟨k + 1, v, b, hlt, rfl, by go_num, rfl, rfl, HS2, HB⟩
        · obtain rfl : k = m := by omega
          clear hlt
          go_wp2_with fail
          go_meet
          exact ⟨v, b, rfl, rfl, HS, HB⟩
    case rest =>
    clear HH0 HW
    obtain ⟨v, b, rfl, rfl, HS, HW⟩ := hcut
    go_upto_region 10 with (first
      | (go_at_call 15; refine (cAp _ HW.out).out.mono ?_; rintro e w6 ⟨⟨A1, c1, rfl, h1⟩, hb⟩; have HX1 := Lib.hid h1; replace HW := Lib.hid (HW.out.trans (hb.mono HW.out.size)); clear h1 hb cAp)
      | (go_at_call 13; refine (cGt _ _ _ HX1.out).out.mono ?_; rintro e w7 ⟨rfl, hb⟩; replace HW := Lib.hid (HW.out.trans (hb.mono HW.out.size)); clear hb cGt HX1))
    obtain ⟨sv, hsv⟩ : ∃ sv, sv = s m := ⟨_, rfl⟩
    rw [← hsv] at HS ⊢
    have HE1 := HS.out.1
    have HE2 := Lib.hid HS.out.2
    clear hsv HS HNX
    subst HE1
    cases sv with
    | none =>
      clear HE2
      go_wp2_with (go_at_call 8; refine (cA _).out.mono ?_; rintro e w' ⟨rfl, hb⟩; replace HW := Lib.hid (HW.out.trans (hb.mono HW.out.size)); clear hb)
      go_ret
      exact ⟨rfl, HW.out⟩
    | some u =>
      obtain rfl := HE2.out u rfl
      clear HE2
      go_wp2_with (go_at_call 8; refine (cA _).out.mono ?_; rintro e w' ⟨rfl, hb⟩; replace HW := Lib.hid (HW.out.trans (hb.mono HW.out.size)); clear hb)
      go_ret
      exact ⟨rfl, HW.out⟩
end Lf
end Go.Proofs.Ytoibkjggfkkdhaa
