/-
  buf's laws: awake, BufRights.
-/
import Derived.Test.YtmgmkfophdjidaaBufRS
import Derived.Test.YtmgmkfophdjidaaBufCut
import Derived.Test.YtmgmkfophdjidaaBufMerge
import Derived.Test.YtmgmkfophdjidaaBufArgs
namespace Go.Proofs.Ytmgmkfophdjidaa
open Go.RowKit
namespace Bu
open Mem Lx
def mA : Mg := (⟨#[97]⟩, false, ⟨#[49]⟩)
def mC : Mg := (⟨#[99]⟩, true, ⟨#[]⟩)
def mO : Mg := (⟨#[97]⟩, false, ⟨#[48]⟩)
def mB : Mg := (⟨#[98]⟩, false, ⟨#[50]⟩)
def mY : Mg := (⟨#[98]⟩, false, ⟨#[]⟩)
def mX : Mg := (⟨#[97]⟩, false, ⟨#[]⟩)
theorem ex_merge : mergeD [mA, mC] [mO, mB] = [mA, mB, mC] := by decide +kernel
theorem ri_AC : Ri [mA, mC] := by decide +kernel
theorem ri_OB : Ri [mO, mB] := by decide +kernel
theorem ri_YX : ¬ Ri [mY, mX] := by decide +kernel
theorem ex_key {L : List Mg} {n : Nat} (h : (L.all fun m => decide (m.1.size ≤ n)) = true) : ∀ m, m ∈ L → m.1.size ≤ n := fun m hm => by
  have := List.all_eq_true.1 h m hm
  simpa using this
set_option maxRecDepth 100000 in
set_option maxHeartbeats 2000000 in
theorem awake_any (W : World) : Calls Try.prog 8 #[] W fun e w' => e = .returned (.bool true) ∧ Below W.heap.size W w' := by
  have cM : ∀ (w : World) (A A' : Option Addr), ML w A [mA, mC] → ML w A' [mO, mB] → Hid (Calls Try.prog 16 #[.slice A 2 2, .slice A' 2 2] w fun e w' => (∃ A2 c2, e = .returned (.slice A2 3 c2) ∧ ML w' A2 [mA, mB, mC]) ∧ Below w.heap.size w w') := fun w A A' h h' =>
    (Merge_any (c := 2) (c' := 2) ⟨h, Nat.le_refl _⟩ ⟨h', Nat.le_refl _⟩ (ex_key (by decide +kernel)) (ex_key (by decide +kernel)) ri_AC ri_OB (by decide) (by decide)).mono fun e w' ⟨⟨A2, c2, he, h1, _⟩, hb⟩ => ⟨⟨A2, c2, by rw [he, ex_merge]; rfl, by rw [ex_merge] at h1; exact h1⟩, hb⟩
  have cS : ∀ (w : World) (A A' : Option Addr) (c c' : Nat), ML w A [mA, mB, mC] → ML w A' [mA, mB, mC] → Hid (Calls Try.prog 12 #[.slice A 3 c, .slice A' 3 c'] w fun e w' => e = .returned (.bool true) ∧ Below w.heap.size w w') := fun w A A' c c' h h' =>
    (RSame_any (c := c) (c' := c') h h' (by decide) (by decide)).mono fun e w' ⟨⟨v, he, hv⟩, hb⟩ => ⟨by rw [he, hv.2 rfl], hb⟩
  have cR : ∀ (w : World) (A : Option Addr) (c : Nat), ML w A [mA, mC] → Hid (Calls Try.prog 9 #[.slice A 2 c] w fun e w' => e = .returned (.bool true) ∧ Below w.heap.size w w') := fun w A c h =>
    (Right_any (c := c) h (ex_key (by decide +kernel)) (by decide)).mono fun e w' ⟨⟨v, he, hv⟩, hb⟩ => ⟨by rw [he, hv.2 (rise_iff.2 ri_AC)], hb⟩
  have cN : ∀ (w : World) (A : Option Addr) (c : Nat), ML w A [mY, mX] → Hid (Calls Try.prog 9 #[.slice A 2 c] w fun e w' => e = .returned (.bool false) ∧ Below w.heap.size w w') := fun w A c h =>
    (Right_any (c := c) h (ex_key (by decide +kernel)) (by decide)).mono fun e w' ⟨⟨v, he, hv⟩, hb⟩ => ⟨by
      cases v
      · exact he
      · exact absurd (rise_iff.1 (hv.1 rfl)) ri_YX, hb⟩
  go_enter Try.func8, Try.ntmps8
  go_upto_region 2 with fail
  have HA1 : Hid (ML (W.alloc (.cells #[.string ⟨#[97]⟩, .bool false, .string ⟨#[49]⟩, .string ⟨#[99]⟩, .bool true, .string ⟨#[]⟩] 28)) (some ⟨W.heap.size, 0, none⟩) [mA, mC]) := RdK.of_block (heap_alloc_new W _)
  have HB1 : Hid (Below W.heap.size W (W.alloc (.cells #[.string ⟨#[97]⟩, .bool false, .string ⟨#[49]⟩, .string ⟨#[99]⟩, .bool true, .string ⟨#[]⟩] 28))) := (Below.refl _ _).alloc (Nat.le_refl _) _
  generalize W.alloc (.cells #[.string ⟨#[97]⟩, .bool false, .string ⟨#[49]⟩, .string ⟨#[99]⟩, .bool true, .string ⟨#[]⟩] 28) = w1 at *
  obtain ⟨g1, hg1⟩ : ∃ g1, g1 = W.heap.size := ⟨_, rfl⟩
  rw [← hg1] at HA1 ⊢
  go_upto_region 3 with fail
  have HO : Hid (ML (w1.alloc (.cells #[.string ⟨#[97]⟩, .bool false, .string ⟨#[48]⟩, .string ⟨#[98]⟩, .bool false, .string ⟨#[50]⟩] 28)) (some ⟨w1.heap.size, 0, none⟩) [mO, mB]) := RdK.of_block (heap_alloc_new w1 _)
  have hb2 : Below w1.heap.size w1 (w1.alloc (.cells #[.string ⟨#[97]⟩, .bool false, .string ⟨#[48]⟩, .string ⟨#[98]⟩, .bool false, .string ⟨#[50]⟩] 28)) := (Below.refl _ _).alloc (Nat.le_refl _) _
  have HA := Lib.hid (HA1.out.kept hb2)
  have HB := Lib.hid (HB1.out.trans (hb2.mono HB1.out.size))
  generalize w1.alloc (.cells #[.string ⟨#[97]⟩, .bool false, .string ⟨#[48]⟩, .string ⟨#[98]⟩, .bool false, .string ⟨#[50]⟩] 28) = w2 at *
  obtain ⟨g2, hg2⟩ : ∃ g2, g2 = w1.heap.size := ⟨_, rfl⟩
  rw [← hg2] at HO ⊢
  clear HA1 HB1 hb2 hg1 hg2
  go_wp2_with (first
    | (go_at_call 16; refine (cM _ _ _ HA.out HO.out).out.mono ?_; rintro e w' ⟨⟨A2, c2, rfl, hM⟩, hb⟩; have HM := Lib.hid hM; replace HA := Lib.hid (HA.out.kept hb); replace HB := Lib.hid (HB.out.trans (hb.mono HB.out.size)); clear hb hM HO)
    | (go_at_call 12; refine (cS _ _ _ _ _ (HM.out.kept ((Below.refl _ _).alloc (Nat.le_refl _) _)) (RdK.of_block (L := [mA, mB, mC]) (heap_alloc_new _ _))).out.mono ?_; rintro e w' ⟨rfl, hb⟩; replace HA := Lib.hid ((HA.out.kept ((Below.refl _ _).alloc (Nat.le_refl _) _)).kept hb); replace HB := Lib.hid ((HB.out.alloc HB.out.size _).trans (hb.mono (HB.out.alloc HB.out.size _).size)); clear hb HM)
    | (go_at_call 9; refine (cR _ _ _ HA.out).out.mono ?_; rintro e w' ⟨rfl, hb⟩; replace HB := Lib.hid (HB.out.trans (hb.mono HB.out.size)); clear hb HA)
    | (go_at_call 9; refine (cN _ _ _ (RdK.of_block (L := [mY, mX]) (heap_alloc_new _ _))).out.mono ?_; rintro e w' ⟨rfl, hb⟩; replace HB := Lib.hid ((HB.out.alloc HB.out.size _).trans (hb.mono (HB.out.alloc HB.out.size _).size)); clear hb))
  go_ret
  exact ⟨rfl, HB.out⟩
theorem bool_of (p : Prop) : ∃ r : Bool, r = true ↔ p := ⟨@decide p (Classical.propDecidable p), by simp⟩
theorem bool_one {v r : Bool} {p : Prop} (h : v = true ↔ p) (k : r = true ↔ p) : v = r := by
  cases v <;> cases r <;> simp_all
theorem fit_key {L : List Mg} (h : Fit L) : ∀ m, m ∈ L → m.1.size ≤ maxLen := fun m hm => Nat.le_trans (h.2 m hm) (by decide)
theorem fit_key3 {L : List Mg} (h : Fit L) : ∀ m, m ∈ L → m.1.size ≤ 1000 := fun m hm => Nat.le_trans (h.2 m hm) (by decide)
set_option maxRecDepth 100000 in
set_option maxHeartbeats 2000000 in
theorem BufRights_walk (A : Option Addr) (c : Nat) (L : List Mg) (B : Option Addr) (d : Nat) (M : List Mg) (w : World) (hA : MC w A c L) (lA : L.length ≤ maxLen) (hB : MC w B d M) (lB : M.length ≤ maxLen) :
    Calls Try.prog 3 #[.slice A L.length c, .slice B M.length d] w fun e w' => e = .returned (.bool true) ∧ Below w.heap.size w w' := by
  replace hA := hA.1
  replace hB := hB.1
  have cA := fun W => Lib.hid (awake_any W)
  have cG : ∀ (g cx : Nat) (W : World) (U : TypeId) (fl : Nat × Nat), W.heap[g]? = some (.cells #[.slice A L.length c, .slice B M.length d] U fl) → ML W A L → ML W B M → Hid (Calls Try.prog 7 #[.slice (some ⟨g, 0, none⟩) 2 cx] W fun e w' => (∃ v : Bool, e = .returned (.bool v) ∧ (v = false ↔ ∀ K, K ∈ [L, M] → Fit K)) ∧ w' = W) := fun g cx W U fl h h1 h2 => great_any (cx := cx) (MM.two h h1 h2) (show 2 ≤ 1000 by decide) (fun K hK => by
    rcases List.mem_cons.1 hK with rfl | hK
    · exact lA
    · obtain rfl : K = M := by simpa using hK
      exact lB)
  have HA := Lib.hid hA
  have HB := Lib.hid hB
  by_cases hf : ∀ K, K ∈ [L, M] → Fit K
  case neg =>
    have cG : ∀ (g cx : Nat) (W : World) (U : TypeId) (fl : Nat × Nat), W.heap[g]? = some (.cells #[.slice A L.length c, .slice B M.length d] U fl) → ML W A L → ML W B M → Hid (Calls Try.prog 7 #[.slice (some ⟨g, 0, none⟩) 2 cx] W fun e w' => e = .returned (.bool true) ∧ w' = W) := fun g cx W U fl h h1 h2 => ((cG g cx W U fl h h1 h2).out).mono fun e w' ⟨⟨v, he, hv⟩, hw⟩ => ⟨by
      cases v
      · exact absurd (hv.1 rfl) hf
      · exact he, hw⟩
    clear hA hB lA lB hf
    generalize L.length = n at *
    generalize M.length = m at *
    go_enter Try.func3, Try.ntmps3
    go_wp2_with (first
      | (go_at_call 7; refine (cG _ _ _ _ _ (heap_alloc_new _ _) (HA.out.kept ((Below.refl _ _).alloc (Nat.le_refl _) _)) (HB.out.kept ((Below.refl _ _).alloc (Nat.le_refl _) _))).out.mono ?_; rintro e w' ⟨rfl, rfl⟩)
      | (go_at_call 8; refine (cA _).out.mono ?_; rintro e w' ⟨rfl, hb⟩))
    go_ret
    exact ⟨rfl, ((Below.refl _ _).alloc (Nat.le_refl _) _).trans (hb.mono (by simp))⟩
  have cG : ∀ (g cx : Nat) (W : World) (U : TypeId) (fl : Nat × Nat), W.heap[g]? = some (.cells #[.slice A L.length c, .slice B M.length d] U fl) → ML W A L → ML W B M → Hid (Calls Try.prog 7 #[.slice (some ⟨g, 0, none⟩) 2 cx] W fun e w' => e = .returned (.bool false) ∧ w' = W) := fun g cx W U fl h h1 h2 => ((cG g cx W U fl h h1 h2).out).mono fun e w' ⟨⟨v, he, hv⟩, hw⟩ => ⟨by
    cases v
    · exact he
    · exact absurd (hv.2 hf) (by simp), hw⟩
  have fA := hf L (by simp)
  have fB := hf M (by simp)
  obtain ⟨r, hr⟩ := bool_of (Rise L)
  obtain ⟨s, hs⟩ := bool_of (L = M)
  have kA : L.length ≤ 1048576 := Nat.le_trans fA.1 (by decide)
  have kB : M.length ≤ 1048576 := Nat.le_trans fB.1 (by decide)
  have cR : ∀ W, Below w.heap.size w W → Hid (Calls Try.prog 9 #[.slice A L.length c] W fun e w' => e = .returned (.bool r) ∧ Below W.heap.size W w') := fun W h => (Right_any (c := c) (hA.kept h) (fit_key fA) kA).mono fun e w' ⟨⟨v, he, hv⟩, hb⟩ => ⟨by rw [he, bool_one hv hr], hb⟩
  have cRR : ∀ W, Below w.heap.size w W → Hid (Calls Try.prog 10 #[.slice A L.length c] W fun e w' => e = .returned (.bool r) ∧ Below W.heap.size W w') := fun W h => (RRight_any (c := c) (hA.kept h) (fit_key fA) kA).mono fun e w' ⟨⟨v, he, hv⟩, hb⟩ => ⟨by rw [he, bool_one hv hr], hb⟩
  have cS : ∀ W, Below w.heap.size w W → Hid (Calls Try.prog 11 #[.slice A L.length c, .slice B M.length d] W fun e w' => e = .returned (.bool s) ∧ Below W.heap.size W w') := fun W h => (Same_any (c := c) (c' := d) (hA.kept h) (hB.kept h) kA kB).mono fun e w' ⟨⟨v, he, hv⟩, hb⟩ => ⟨by rw [he, bool_one hv hs], hb⟩
  have cRS : ∀ W, Below w.heap.size w W → Hid (Calls Try.prog 12 #[.slice A L.length c, .slice B M.length d] W fun e w' => e = .returned (.bool s) ∧ Below W.heap.size W w') := fun W h => (RSame_any (c := c) (c' := d) (hA.kept h) (hB.kept h) kA kB).mono fun e w' ⟨⟨v, he, hv⟩, hb⟩ => ⟨by rw [he, bool_one hv hs], hb⟩
  have cSA : ∀ W, Below w.heap.size w W → Hid (Calls Try.prog 11 #[.slice A L.length c, .slice A L.length c] W fun e w' => e = .returned (.bool true) ∧ Below W.heap.size W w') := fun W h => (Same_any (c := c) (c' := c) (hA.kept h) (hA.kept h) kA kA).mono fun e w' ⟨⟨v, he, hv⟩, hb⟩ => ⟨by rw [he, hv.2 rfl], hb⟩
  clear hA hB lA lB hf fA fB hr hs kA kB
  generalize L.length = n at *
  generalize M.length = m at *
  cases r <;> cases s
  all_goals
    go_enter Try.func3, Try.ntmps3
    go_upto_region 3 with (go_at_call 7; refine (cG _ _ _ _ _ (heap_alloc_new _ _) (HA.out.kept ((Below.refl _ _).alloc (Nat.le_refl _) _)) (HB.out.kept ((Below.refl _ _).alloc (Nat.le_refl _) _))).out.mono ?_; rintro e w' ⟨rfl, rfl⟩)
    have HW : Hid (Below w.heap.size w (w.alloc (.cells #[.slice A n c, .slice B m d] 22))) := (Below.refl _ _).alloc (Nat.le_refl _) _
    generalize w.alloc (.cells #[.slice A n c, .slice B m d] 22) = w1 at *
    go_wp2_with (first
      | (go_at_call 9; refine (cR _ HW.out).out.mono ?_; rintro e w' ⟨rfl, hb⟩; replace HW := Lib.hid (HW.out.trans (hb.mono HW.out.size)); clear hb)
      | (go_at_call 10; refine (cRR _ HW.out).out.mono ?_; rintro e w' ⟨rfl, hb⟩; replace HW := Lib.hid (HW.out.trans (hb.mono HW.out.size)); clear hb)
      | (go_at_call 11; refine (cS _ HW.out).out.mono ?_; rintro e w' ⟨rfl, hb⟩; replace HW := Lib.hid (HW.out.trans (hb.mono HW.out.size)); clear hb cS)
      | (go_at_call 12; refine (cRS _ HW.out).out.mono ?_; rintro e w' ⟨rfl, hb⟩; replace HW := Lib.hid (HW.out.trans (hb.mono HW.out.size)); clear hb)
      | (go_at_call 11; refine (cSA _ HW.out).out.mono ?_; rintro e w' ⟨rfl, hb⟩; replace HW := Lib.hid (HW.out.trans (hb.mono HW.out.size)); clear hb)
      | (go_at_call 8; refine (cA _).out.mono ?_; rintro e w' ⟨rfl, hb⟩; replace HW := Lib.hid (HW.out.trans (hb.mono HW.out.size)); clear hb))
    go_ret
    exact ⟨rfl, HW.out⟩
end Bu
end Go.Proofs.Ytmgmkfophdjidaa
