/-
  leaf's laws: awake, LeafRights.
-/
import Derived.Test.YtoibkjggfkkdhaaLeafCode5
import Derived.Test.YtoibkjggfkkdhaaLeafG
import Derived.Test.YtoibkjggfkkdhaaPairArgs
import Derived.Test.YtoibkjggfkkdhaaMsgArgs
import Derived.Deep.RegionWith
namespace Go.Proofs.Ytoibkjggfkkdhaa
open Go.RowKit
namespace Lf
open Mem Lx Bu
def pA : Pr := (⟨#[97]⟩, ⟨#[49]⟩)
def pC : Pr := (⟨#[99]⟩, ⟨#[51]⟩)
def pB : Pr := (⟨#[98]⟩, ⟨#[50]⟩)
def mB : Mg := (⟨#[98]⟩, false, ⟨#[50]⟩)
def mD : Mg := (⟨#[97]⟩, true, ⟨#[]⟩)
def h1 : Pr := (⟨#[97]⟩, ⟨#[]⟩)
def h2 : Pr := (⟨#[97, 98]⟩, ⟨#[]⟩)
def h3 : Pr := (⟨#[98]⟩, ⟨#[]⟩)
theorem ex_apply : applyP [pA, pC] [mB, mD] = [pB, pC] := by decide +kernel
theorem ex_half : halfP [h1, h2, h3] = ([h1, h2], [h3], ⟨#[98]⟩, true) := by decide +kernel
theorem ri_AC : PRi [pA, pC] := by decide +kernel
theorem ri_BC : PRi [pB, pC] := by decide +kernel
theorem ri_H : PRi [h1, h2, h3] := by decide +kernel
theorem exP_key {L : List Pr} {n : Nat} (h : (L.all fun m => decide (m.1.size ≤ n)) = true) : ∀ m, m ∈ L → m.1.size ≤ n := fun m hm => by
  have := List.all_eq_true.1 h m hm
  simpa using this
theorem exM_key {L : List Mg} {n : Nat} (h : (L.all fun m => decide (m.1.size ≤ n)) = true) : ∀ m, m ∈ L → m.1.size ≤ n := fun m hm => by
  have := List.all_eq_true.1 h m hm
  simpa using this
theorem RdK.of_mblock {w : World} {g : Nat} {L : List Mg} {U : TypeId} {f : Nat × Nat} (h : w.heap[g]? = some (.cells (L.flatMap MgK.cs).toArray U f)) : ML w (some ⟨g, 0, none⟩) L := fun _ => by
  refine ⟨g, 0, rfl, (Array.getElem?_eq_some_iff.1 h).1, fun i x hx j u hu => ?_⟩
  have hj : j < MgK.k := by
    have := (List.getElem?_eq_some_iff.1 hu).1
    rw [MgK.len] at this
    exact this
  have := MgK.at_ hx hj
  simp only [World.cell?, h, Nat.zero_add]
  simpa [this] using hu
set_option maxRecDepth 100000 in
set_option maxHeartbeats 2000000 in
theorem awake_any (W : World) : Calls Try.prog 8 #[] W fun e w' => e = .returned (.bool true) ∧ Below W.heap.size W w' := by
  have cA : ∀ (w : World) (A A' : Option Addr), PL w A [pA, pC] → ML w A' [mB, mD] → Hid (Calls Try.prog 15 #[.slice A 2 2, .slice A' 2 2] w fun e w' => (∃ A2 c2, e = .returned (.slice A2 2 c2) ∧ PL w' A2 [pB, pC]) ∧ Below w.heap.size w w') := fun w A A' h h' =>
    (Apply_any (c := 2) (c' := 2) ⟨h, Nat.le_refl _⟩ ⟨h', Nat.le_refl _⟩ (exP_key (by decide +kernel)) (exM_key (by decide +kernel)) ri_AC (by decide) (by decide)).mono fun e w' ⟨⟨A2, c2, he, h1⟩, hb⟩ => ⟨⟨A2, c2, by rw [he, ex_apply]; rfl, by rw [ex_apply] at h1; exact h1.1⟩, hb⟩
  have cH : ∀ (w : World) (A : Option Addr), PL w A [h1, h2, h3] → Hid (Calls Try.prog 19 #[.slice A 3 3] w fun e w' => (∃ A1 c1 A2 c2, e = .returned (.tuple #[.slice A1 2 c1, .slice A2 1 c2, .string ⟨#[98]⟩, .bool true])) ∧ Below w.heap.size w w') := fun w A h =>
    (Halve_any (c := 3) ⟨h, Nat.le_refl _⟩ (exP_key (by decide +kernel)) ri_H (by decide)).mono fun e w' ⟨⟨A1, c1, A2, c2, he, _⟩, hb⟩ => ⟨⟨A1, c1, A2, c2, by rw [he, ex_half]; rfl⟩, hb⟩
  have cS : ∀ (w : World) (A A' : Option Addr) (c c' : Nat), PL w A [pB, pC] → PL w A' [pB, pC] → Hid (Calls Try.prog 12 #[.slice A 2 c, .slice A' 2 c'] w fun e w' => e = .returned (.bool true) ∧ Below w.heap.size w w') := fun w A A' c c' h h' =>
    (RSame_any (c := c) (c' := c') h h' (by decide) (by decide)).mono fun e w' ⟨⟨v, he, hv⟩, hb⟩ => ⟨by rw [he, hv.2 rfl], hb⟩
  have cR : ∀ (w : World) (A : Option Addr) (c : Nat), PL w A [pB, pC] → Hid (Calls Try.prog 9 #[.slice A 2 c] w fun e w' => e = .returned (.bool true) ∧ Below w.heap.size w w') := fun w A c h =>
    (Right_any (c := c) h (by decide)).mono fun e w' ⟨⟨v, he, hv⟩, hb⟩ => ⟨by rw [he, hv.2 (prise_iff.2 ri_BC)], hb⟩
  go_enter Try.func8, Try.ntmps8
  go_upto_region 2 with (go_at_call 15; refine (cA _ _ _ (RdK.of_pblock (L := [pA, pC]) (two_new _ _ _).1) (RdK.of_mblock (L := [mB, mD]) (two_new _ _ _).2.1)).out.mono ?_; rintro e w1 ⟨⟨A2, c2, rfl, hM⟩, hb⟩; have HM := Lib.hid hM; have HB : Hid (Below W.heap.size W w1) := (two_new _ _ _).2.2.trans (hb.mono (two_new _ _ _).2.2.size); clear hb hM cA)
  go_upto_region 3 with (go_at_call 19; refine (cH _ _ (RdK.of_pblock (L := [h1, h2, h3]) (heap_alloc_new _ _))).out.mono ?_; rintro e w2 ⟨⟨A3, c3, A4, c4, rfl⟩, hb⟩; replace HM := Lib.hid ((HM.out.kept ((Below.refl _ _).alloc (Nat.le_refl _) _)).kept hb); replace HB := Lib.hid ((HB.out.alloc HB.out.size _).trans (hb.mono (HB.out.alloc HB.out.size _).size)); clear hb cH)
  go_wp2_with (first
    | (go_at_call 12; refine (cS _ _ _ _ _ (HM.out.kept ((Below.refl _ _).alloc (Nat.le_refl _) _)) (RdK.of_pblock (L := [pB, pC]) (heap_alloc_new _ _))).out.mono ?_; rintro e w' ⟨rfl, hb⟩; replace HM := Lib.hid ((HM.out.kept ((Below.refl _ _).alloc (Nat.le_refl _) _)).kept hb); replace HB := Lib.hid ((HB.out.alloc HB.out.size _).trans (hb.mono (HB.out.alloc HB.out.size _).size)); clear hb)
    | (go_at_call 9; refine (cR _ _ _ HM.out).out.mono ?_; rintro e w' ⟨rfl, hb⟩; replace HB := Lib.hid (HB.out.trans (hb.mono HB.out.size)); clear hb HM))
  go_ret
  exact ⟨rfl, HB.out⟩
theorem fitP_key {L : List Pr} (h : FitP L) : ∀ m, m ∈ L → m.1.size ≤ maxLen := fun m hm => Nat.le_trans (h.2 m hm) (by decide)
theorem fitP_key3 {L : List Pr} (h : FitP L) : ∀ m, m ∈ L → m.1.size ≤ 1000 := fun m hm => Nat.le_trans (h.2 m hm) (by decide)
theorem fitM_key {L : List Mg} (h : FitM L) : ∀ m, m ∈ L → m.1.size ≤ maxLen := fun m hm => Nat.le_trans (h.2 m hm) (by decide)
theorem fitM_key3 {L : List Mg} (h : FitM L) : ∀ m, m ∈ L → m.1.size ≤ 1000 := fun m hm => Nat.le_trans (h.2 m hm) (by decide)
/-- great's answer of one list -/
theorem great1 {A : Option Addr} {c : Nat} {L : List Pr} (lA : L.length ≤ maxLen) (r : Bool) (hr : r = false ↔ FitP L) (W : World) (h1 : PL W A L) : Hid (Calls Try.prog 7 #[.slice A L.length c, .slice none 0 0] W fun e w' => e = .returned (.bool r) ∧ w' = W) :=
  (great_any (c := c) (c' := 0) h1 (RdK.nil W none : ML W none []) lA (Nat.zero_le _)).mono fun e w' ⟨⟨v, he, hv⟩, hw⟩ => ⟨by
    have hv2 : v = false ↔ FitP L := by
      rw [hv]
      exact ⟨fun h => h.1, fun h => ⟨h, Nat.zero_le _, fun m hm => by cases hm⟩⟩
    have : v = r := by
      cases v <;> cases r <;> simp_all
    rw [he, this], hw⟩
set_option maxRecDepth 100000 in
set_option maxHeartbeats 4000000 in
theorem LeafRights_walk (A : Option Addr) (c : Nat) (L : List Pr) (B : Option Addr) (d : Nat) (M : List Pr) (key : ByteArray) (w : World) (hA : PC w A c L) (lA : L.length ≤ maxLen) (hB : PC w B d M) (lB : M.length ≤ maxLen) :
    Calls Try.prog 3 #[.slice A L.length c, .slice B M.length d, .string key] w fun e w' => e = .returned (.bool true) ∧ Below w.heap.size w w' := by
  have cA := fun W => Lib.hid (awake_any W)
  obtain ⟨ga, hga⟩ := bool_of (¬ FitP L)
  obtain ⟨gb, hgb⟩ := bool_of (¬ FitP M)
  have cGa := great1 (A := A) (c := c) lA ga (by cases ga <;> simp_all) w hA.1
  have cGb := great1 (A := B) (c := d) lB gb (by cases gb <;> simp_all) w hB.1
  obtain ⟨r, hr⟩ := bool_of (PRise L)
  obtain ⟨s, hs⟩ := bool_of (L = M)
  have cR : FitP L → ∀ W, Below w.heap.size w W → Hid (Calls Try.prog 9 #[.slice A L.length c] W fun e w' => e = .returned (.bool r) ∧ Below W.heap.size W w') := fun f W h => (Right_any (c := c) (hA.1.kept h) (Nat.le_trans f.1 (by decide))).mono fun e w' ⟨⟨v, he, hv⟩, hb⟩ => ⟨by rw [he, bool_one hv hr], hb⟩
  have cRR : FitP L → ∀ W, Below w.heap.size w W → Hid (Calls Try.prog 10 #[.slice A L.length c] W fun e w' => e = .returned (.bool r) ∧ Below W.heap.size W w') := fun f W h => (RRight_any (c := c) (hA.1.kept h) (fitP_key f) (Nat.le_trans f.1 (by decide))).mono fun e w' ⟨⟨v, he, hv⟩, hb⟩ => ⟨by rw [he, bool_one hv hr], hb⟩
  have cS : FitP L → FitP M → ∀ W, Below w.heap.size w W → Hid (Calls Try.prog 11 #[.slice A L.length c, .slice B M.length d] W fun e w' => e = .returned (.bool s) ∧ Below W.heap.size W w') := fun f g W h => (Same_any (c := c) (c' := d) (hA.1.kept h) (hB.1.kept h) (Nat.le_trans f.1 (by decide)) (Nat.le_trans g.1 (by decide))).mono fun e w' ⟨⟨v, he, hv⟩, hb⟩ => ⟨by rw [he, bool_one hv hs], hb⟩
  have cRS : FitP L → FitP M → ∀ W, Below w.heap.size w W → Hid (Calls Try.prog 12 #[.slice A L.length c, .slice B M.length d] W fun e w' => e = .returned (.bool s) ∧ Below W.heap.size W w') := fun f g W h => (RSame_any (c := c) (c' := d) (hA.1.kept h) (hB.1.kept h) (Nat.le_trans f.1 (by decide)) (Nat.le_trans g.1 (by decide))).mono fun e w' ⟨⟨v, he, hv⟩, hb⟩ => ⟨by rw [he, bool_one hv hs], hb⟩
  have cSA : FitP L → ∀ W, Below w.heap.size w W → Hid (Calls Try.prog 11 #[.slice A L.length c, .slice A L.length c] W fun e w' => e = .returned (.bool true) ∧ Below W.heap.size W w') := fun f W h => (Same_any (c := c) (c' := c) (hA.1.kept h) (hA.1.kept h) (Nat.le_trans f.1 (by decide)) (Nat.le_trans f.1 (by decide))).mono fun e w' ⟨⟨v, he, hv⟩, hb⟩ => ⟨by rw [he, hv.2 rfl], hb⟩
  have cGt : FitP L → PRise L → ∀ W, Below w.heap.size w W → Hid (Calls Try.prog 13 #[.slice A L.length c, .string key] W fun e w' => e = .returned (.tuple #[.string ((getP L key).getD ⟨#[]⟩), .bool (getP L key).isSome]) ∧ Below W.heap.size W w') := fun f hp W h => Get_any (c := c) (hA.kept h) key (fitP_key3 f) (prise_iff.1 hp) (Nat.le_trans f.1 (by decide))
  have cRG : FitP L → ∀ W, Below w.heap.size w W → Hid (Calls Try.prog 14 #[.slice A L.length c, .string key] W fun e w' => e = .returned (.tuple #[.string ((getP L key).getD ⟨#[]⟩), .bool (getP L key).isSome]) ∧ w' = W) := fun f W h => RGet_any (c := c) (hA.1.kept h) key (Nat.le_trans f.1 (by decide))
  have HGA := Lib.hid hga
  have HGB := Lib.hid hgb
  have HRR := Lib.hid hr
  generalize (getP L key).getD ⟨#[]⟩ = gv at *
  generalize (getP L key).isSome = gs at *
  clear hA hB lA lB hga hgb hr hs
  generalize L.length = n at *
  generalize M.length = m at *
  obtain ⟨kb, hkb⟩ : ∃ kb, kb = decide (300 < (key.size : Int)) := ⟨_, rfl⟩
  go_enter Try.func3, Try.ntmps3
  go_upto_region 1 with fail
  go_cut [21] (fun tv wx => tv = .bool (ga || gb || kb) ∧ wx = w)
  case first =>
    clear cA cR cRR cS cRS cSA cGt cRG HGA HGB HRR
    cases ga with
    | true =>
      go_wp2_with (go_at_call_of 7 (Value.slice A n c); refine cGa.out.mono ?_; rintro e w' ⟨rfl, rfl⟩)
      go_meet
      exact ⟨rfl, rfl⟩
    | false =>
      cases gb with
      | true =>
        go_wp2_with (first
          | (go_at_call_of 7 (Value.slice A n c); refine cGa.out.mono ?_; rintro e w' ⟨rfl, rfl⟩)
          | (go_at_call_of 7 (Value.slice B m d); refine cGb.out.mono ?_; rintro e w' ⟨rfl, rfl⟩))
        go_meet
        exact ⟨rfl, rfl⟩
      | false =>
        go_wp2_with (first
          | (go_at_call_of 7 (Value.slice A n c); refine cGa.out.mono ?_; rintro e w' ⟨rfl, rfl⟩)
          | (go_at_call_of 7 (Value.slice B m d); refine cGb.out.mono ?_; rintro e w' ⟨rfl, rfl⟩))
        go_meet
        exact ⟨by rw [hkb]; rfl, rfl⟩
  case rest =>
  obtain ⟨rfl, rfl⟩ := hcut
  clear cGa cGb
  have HW : Hid (Below wc.heap.size wc wc) := Below.refl _ _
  obtain ⟨tb, htb⟩ : ∃ tb, tb = (ga || gb || kb) := ⟨_, rfl⟩
  rw [← htb]
  cases tb with
  | true =>
    clear cR cRR cS cRS cSA cGt cRG HGA HGB HRR htb hkb
    go_wp2_with (go_at_call 8; refine (cA _).out.mono ?_; rintro e w' ⟨rfl, hb⟩)
    go_ret
    exact ⟨rfl, hb⟩
  | false =>
    obtain ⟨⟨rfl, rfl⟩, rfl⟩ : (ga = false ∧ gb = false) ∧ kb = false := by simpa using htb.symm
    have fA : FitP L := Classical.not_not.1 fun h => by cases HGA.out.2 h
    have fB : FitP M := Classical.not_not.1 fun h => by cases HGB.out.2 h
    have hk : key.size ≤ 300 := by
      have : ¬ (300 < (key.size : Int)) := by simpa using hkb.symm
      omega
    replace cR := cR fA
    replace cRR := cRR fA
    replace cS := cS fA fB
    replace cRS := cRS fA fB
    replace cSA := cSA fA
    replace cRG := cRG fA
    clear HGA HGB htb hkb fB
    cases r with
    | false =>
      clear cGt cRG fA hk HRR
      cases s
      all_goals
        go_wp2_with (first
          | (go_at_call 9; refine (cR _ HW.out).out.mono ?_; rintro e w' ⟨rfl, hb⟩; replace HW := Lib.hid (HW.out.trans (hb.mono HW.out.size)); clear hb)
          | (go_at_call 10; refine (cRR _ HW.out).out.mono ?_; rintro e w' ⟨rfl, hb⟩; replace HW := Lib.hid (HW.out.trans (hb.mono HW.out.size)); clear hb)
          | (go_at_call_of 11 (Value.slice B m d); refine (cS _ HW.out).out.mono ?_; rintro e w' ⟨rfl, hb⟩; replace HW := Lib.hid (HW.out.trans (hb.mono HW.out.size)); clear hb cS)
          | (go_at_call 12; refine (cRS _ HW.out).out.mono ?_; rintro e w' ⟨rfl, hb⟩; replace HW := Lib.hid (HW.out.trans (hb.mono HW.out.size)); clear hb)
          | (go_at_call 11; refine (cSA _ HW.out).out.mono ?_; rintro e w' ⟨rfl, hb⟩; replace HW := Lib.hid (HW.out.trans (hb.mono HW.out.size)); clear hb)
          | (go_at_call 8; refine (cA _).out.mono ?_; rintro e w' ⟨rfl, hb⟩; replace HW := Lib.hid (HW.out.trans (hb.mono HW.out.size)); clear hb))
        go_ret
        exact ⟨rfl, HW.out⟩
    | true =>
      replace cGt := cGt fA (HRR.out.1 rfl)
      clear fA hk HRR
      cases s
      all_goals
        go_wp2_with (first
          | (go_at_call 9; refine (cR _ HW.out).out.mono ?_; rintro e w' ⟨rfl, hb⟩; replace HW := Lib.hid (HW.out.trans (hb.mono HW.out.size)); clear hb)
          | (go_at_call 10; refine (cRR _ HW.out).out.mono ?_; rintro e w' ⟨rfl, hb⟩; replace HW := Lib.hid (HW.out.trans (hb.mono HW.out.size)); clear hb)
          | (go_at_call_of 11 (Value.slice B m d); refine (cS _ HW.out).out.mono ?_; rintro e w' ⟨rfl, hb⟩; replace HW := Lib.hid (HW.out.trans (hb.mono HW.out.size)); clear hb cS)
          | (go_at_call 12; refine (cRS _ HW.out).out.mono ?_; rintro e w' ⟨rfl, hb⟩; replace HW := Lib.hid (HW.out.trans (hb.mono HW.out.size)); clear hb)
          | (go_at_call 11; refine (cSA _ HW.out).out.mono ?_; rintro e w' ⟨rfl, hb⟩; replace HW := Lib.hid (HW.out.trans (hb.mono HW.out.size)); clear hb)
          | (go_at_call 13; refine (cGt _ HW.out).out.mono ?_; rintro e w' ⟨rfl, hb⟩; replace HW := Lib.hid (HW.out.trans (hb.mono HW.out.size)); clear hb)
          | (go_at_call 14; refine (cRG _ HW.out).out.mono ?_; rintro e w' ⟨rfl, rfl⟩)
          | (go_at_call 8; refine (cA _).out.mono ?_; rintro e w' ⟨rfl, hb⟩; replace HW := Lib.hid (HW.out.trans (hb.mono HW.out.size)); clear hb))
        go_ret
        exact ⟨rfl, HW.out⟩
end Lf
end Go.Proofs.Ytoibkjggfkkdhaa
