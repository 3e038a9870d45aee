/-
  BufPlaceC, LeafHalveC, NodeR1, ConfD, ConfD2. Put together by pack.py.
-/
import Derived.Test.YtohnllclkpflaaaPkAE
import Derived.Test.YtohnllclkpflaaaPkAI
import Derived.Test.YtohnllclkpflaaaPkAJ
import Derived.Test.YtohnllclkpflaaaPkAH
import Derived.Test.YtohnllclkpflaaaChecked
import Derived.Test.YtohnllclkpflaaaDrift
import Derived.WalkKit
import Derived.WalkLawsBesides
import Derived.KernelRfl
import Derived.WalkSpells
import Derived.BigQuiet
import Derived.Deep.DeepCutAuto
import Derived.Deep.CutBlock
import Derived.Lib.Hide

namespace Go.Proofs.Ytohnllclkpflaaa
open Go.RowKit
namespace Bu
open Mem Lx
set_option maxRecDepth 100000 in
set_option maxHeartbeats 2000000 in
theorem cmpKey_any (x : Mg) (key : ByteArray) (w : World) : Calls Try.prog 60 #[.agg #[.string x.1, .bool x.2.1, .string x.2.2], .string key] w fun e w' => e = .returned (.int .i64 (cmpB x.1 key)) ∧ Below w.heap.size w w' := by
  go_enter Try.func60, Try.ntmps60
  go_wp2_with (go_at_call 53; refine (CCmp _ _ _).mono ?_; rintro e w' ⟨rfl, hb⟩)
  go_ret
  exact ⟨rfl, ((Below.refl _ _).alloc (Nat.le_refl _) _).trans (hb.mono (by simp))⟩
/-- where a key stands, or would stand -/
structure Lb (L : List Mg) (key : ByteArray) (p : Nat) : Prop where
  le : p ≤ L.length
  lo : ∀ (i : Nat) (m : Mg), i < p → L[i]? = some m → cmpB m.1 key < 0
  hi : ∀ (i : Nat) (m : Mg), p ≤ i → L[i]? = some m → 0 ≤ cmpB m.1 key
theorem Ri.at_ {L : List Mg} (h : Ri L) {i j : Nat} {x y : Mg} (hx : L[i]? = some x) (hy : L[j]? = some y) (hij : i < j) : cmpB x.1 y.1 < 0 := by
  obtain ⟨h1, e1⟩ := List.getElem?_eq_some_iff.1 hx
  obtain ⟨h2, e2⟩ := List.getElem?_eq_some_iff.1 hy
  subst e1 e2
  exact List.pairwise_iff_getElem.1 h i j h1 h2 hij
theorem Ri.lower {L : List Mg} (h : Ri L) {key : ByteArray} {j : Nat} {y : Mg} (hy : L[j]? = some y) (hk : cmpB y.1 key < 0) : ∀ (i : Nat) (m : Mg), i < j + 1 → L[i]? = some m → cmpB m.1 key < 0 := fun i m hi hm => by
  rcases Nat.lt_or_ge i j with hij | hij
  · exact cmpB_trans (h.at_ hm hy hij) hk
  · obtain rfl : i = j := by omega
    rw [hy] at hm
    cases hm
    exact hk
theorem Ri.upper {L : List Mg} (h : Ri L) {key : ByteArray} {j : Nat} {y : Mg} (hy : L[j]? = some y) (hk : 0 ≤ cmpB y.1 key) : ∀ (i : Nat) (m : Mg), j ≤ i → L[i]? = some m → 0 ≤ cmpB m.1 key := fun i m hi hm => by
  rcases Nat.lt_or_ge j i with hij | hij
  · have h1 := h.at_ hy hm hij
    rcases Int.lt_or_le (cmpB m.1 key) 0 with h2 | h2
    · have := cmpB_trans h1 h2
      omega
    · exact h2
  · obtain rfl : i = j := by omega
    rw [hy] at hm
    cases hm
    exact hk
set_option maxRecDepth 100000 in
set_option maxHeartbeats 4000000 in
theorem search_any {W : World} {A : Option Addr} {c : Nat} {L : List Mg} (h : ML W A L) (key : ByteArray) (hr : Ri L) (hl : L.length ≤ 1048576) : Calls Try.prog 59 #[.slice A L.length c, .string key, .func (.func 60) #[] #[]] W fun e w' => (∃ (p : Nat) (b : Bool), e = .returned (.tuple #[.int .i64 (p : Int), .bool b]) ∧ Lb L key p ∧ (b = true ↔ ∃ m, L[p]? = some m ∧ m.1 = key)) ∧ Below W.heap.size W w' := by
  obtain ⟨n, hn⟩ : ∃ n, n = L.length := ⟨_, rfl⟩
  have HN := Lib.hid hn
  have HH := Lib.hid h
  have HR := Lib.hid hr
  rw [← hn] at hl ⊢
  clear h hr hn
  go_enter Try.func59, Try.ntmps59
  go_wp2_with fail
  go_loopg [9, 10] n (fun gk s9 s10 wr => ∃ lo hi : Nat, lo ≤ hi ∧ hi ≤ n ∧ gk = hi - lo ∧ s9 = .int .i64 (lo : Int) ∧ s10 = .int .i64 (hi : Int) ∧ Hid (∀ (i : Nat) (m : Mg), i < lo → L[i]? = some m → cmpB m.1 key < 0) ∧ Hid (∀ (i : Nat) (m : Mg), hi ≤ i → L[i]? = some m → 0 ≤ cmpB m.1 key) ∧ Hid (Below W.heap.size W wr))
  case atStart => exact ⟨0, n, Nat.zero_le _, Nat.le_refl _, rfl, rfl, rfl, fun i m hi => by omega, fun i m hi hm => by
    have := (List.getElem?_eq_some_iff.1 hm).1
    rw [← HN.out] at this
    omega, Below.refl _ _⟩
  case round =>
    obtain ⟨lo, hi, hlh, hhn, rfl, rfl, rfl, HL, HU, HB⟩ := hrel
    by_cases hlt : lo < hi
    · obtain ⟨k, hk⟩ : ∃ k, k = (lo + hi) / 2 := ⟨_, rfl⟩
      have hk1 : lo ≤ k := by omega
      have hk2 : k < hi := by omega
      have hkn : k < n := by omega
      have hj : k < L.length := by rw [← HN.out]; exact hkn
      obtain ⟨x, hx⟩ : ∃ x, x = L[k] := ⟨_, rfl⟩
      have hx' := nat_len hj
      rw [← hx] at hx'
      obtain ⟨b, o, e, -, c0, c1, c2⟩ := RdK.msg (HH.out.kept HB.out) hx'
      subst e
      have HX := Lib.hid hx'
      have cC := fun w => Lib.hid (cmpKey_any x key w)
      have hw1 : IntKind.i64.wrap ((lo : Int) + (hi : Int)) = (lo : Int) + (hi : Int) := by rw [IntKind.wrap_i64]; omega
      have hw2 : IntKind.i64.wrap ((k : Int) + 1) = ((k + 1 : Nat) : Int) := by rw [IntKind.wrap_i64]; omega
      have hq : ((lo : Int) + (hi : Int)) / 2 = (k : Int) := by omega
      have hsh : ∀ w, (binOp .shr 88 (.int .u64 ((lo : Int) + (hi : Int))) (.int .u64 1)).run Try.prog w = .ok (.int .u64 (k : Int)) w := fun w => by
        rw [← hq]
        simp [go_sem]
      have hw3 : IntKind.i64.wrap (k : Int) = (k : Int) := by rw [IntKind.wrap_i64]; omega
      have HQ := Lib.hid hq
      have HK := Lib.hid hk
      clear hx hx' hj hq hk hsh
      go_upto_region 5 with fail
      rw [HQ.out]
      by_cases hz : cmpB x.1 key < 0
      · have HL2 : Hid (∀ (i : Nat) (m : Mg), i < k + 1 → L[i]? = some m → cmpB m.1 key < 0) := HR.out.lower HX.out hz
        generalize cmpB x.1 key = z at *
        go_wp2_with (go_at_call 60; refine (cC _).out.mono ?_; rintro e w' ⟨rfl, hb⟩)
        have HB2 := Lib.hid (HB.out.trans (hb.mono HB.out.size))
        go_roundg (hi - (k + 1))
        case measure => omega
        case rel => exact ⟨k + 1, hi, by omega, hhn, rfl, by go_num, rfl, HL2, HU, HB2⟩
      · have HU2 : Hid (∀ (i : Nat) (m : Mg), k ≤ i → L[i]? = some m → 0 ≤ cmpB m.1 key) := HR.out.upper HX.out (by omega)
        have hd : decide (cmpB x.1 key < 0) = false := by simpa using hz
        generalize cmpB x.1 key = z at *
        go_wp2_with (go_at_call 60; refine (cC _).out.mono ?_; rintro e w' ⟨rfl, hb⟩)
        have HB2 := Lib.hid (HB.out.trans (hb.mono HB.out.size))
        go_roundg (k - lo)
        case measure => omega
        case rel => exact ⟨lo, k, hk1, by omega, rfl, rfl, rfl, HL, HU2, HB2⟩
    · obtain rfl : lo = hi := by omega
      have HP : Hid (Lb L key lo) := ⟨by rw [← HN.out]; exact hhn, HL.out, HU.out⟩
      by_cases hnn : lo < n
      · have hj : lo < L.length := by rw [← HN.out]; exact hnn
        obtain ⟨x, hx⟩ : ∃ x, x = L[lo] := ⟨_, rfl⟩
        have hx' := nat_len hj
        rw [← hx] at hx'
        obtain ⟨b, o, e, -, c0, c1, c2⟩ := RdK.msg (HH.out.kept HB.out) hx'
        subst e
        have HX := Lib.hid hx'
        have cC := fun w => Lib.hid (cmpKey_any x key w)
        clear hx hx' hj
        by_cases hz : cmpB x.1 key = 0
        · have HF : Hid (∃ m, L[lo]? = some m ∧ m.1 = key) := ⟨x, HX.out, cmpB_zero hz⟩
          generalize cmpB x.1 key = z at *
          go_wp2_with (go_at_call 60; refine (cC _).out.mono ?_; rintro e w' ⟨rfl, hb⟩)
          have HB2 := Lib.hid (HB.out.trans (hb.mono HB.out.size))
          exact bodyPost_ret (v := .tuple #[.int .i64 (lo : Int), .bool true]) (by simp [results, Try.results59, go_sem]) rfl ⟨⟨lo, true, rfl, HP.out, by simpa using HF.out⟩, HB2.out⟩
        · have HF : Hid (¬ ∃ m, L[lo]? = some m ∧ m.1 = key) := fun ⟨m, h1, h2⟩ => hz (by
            rw [HX.out] at h1
            cases h1
            rw [h2]
            exact cmpB_self key)
          have hd : decide (cmpB x.1 key = 0) = false := by simpa using hz
          generalize cmpB x.1 key = z at *
          go_wp2_with (go_at_call 60; refine (cC _).out.mono ?_; rintro e w' ⟨rfl, hb⟩)
          have HB2 := Lib.hid (HB.out.trans (hb.mono HB.out.size))
          exact bodyPost_ret (v := .tuple #[.int .i64 (lo : Int), .bool false]) (by simp [results, Try.results59, go_sem, hz]) rfl ⟨⟨lo, false, rfl, HP.out, by simpa using HF.out⟩, HB2.out⟩
      · have HF : Hid (¬ ∃ m, L[lo]? = some m ∧ m.1 = key) := fun ⟨m, h1, _⟩ => hnn (by
          have := (List.getElem?_eq_some_iff.1 h1).1
          rw [HN.out]
          exact this)
        have hge : n ≤ lo := by omega
        have hd : decide ((lo : Int) < (n : Int)) = false := by simp; omega
        clear hnn hlt
        go_wp2_with fail
        exact bodyPost_ret (v := .tuple #[.int .i64 (lo : Int), .bool false]) (by simp [results, Try.results59, go_sem]) rfl ⟨⟨lo, false, rfl, HP.out, by simpa using HF.out⟩, HB.out⟩
set_option maxRecDepth 100000 in
set_option maxHeartbeats 2000000 in
theorem place_any {W : World} {A : Option Addr} {c : Nat} {L : List Mg} (h : ML W A L) (key : ByteArray) (hr : Ri L) (hl : L.length ≤ 1048576) : Calls Try.prog 55 #[.slice A L.length c, .string key] W fun e w' => (∃ (p : Nat) (b : Bool), e = .returned (.tuple #[.int .i64 (p : Int), .bool b]) ∧ Lb L key p ∧ (b = true ↔ ∃ m, L[p]? = some m ∧ m.1 = key)) ∧ Below W.heap.size W w' := by
  have cS := Lib.hid (search_any (c := c) h key hr hl)
  clear h
  generalize L.length = n at *
  go_enter Try.func55, Try.ntmps55
  go_wp2_with (go_at_call 59; refine cS.out.mono ?_; rintro e w' ⟨⟨p, b, rfl, h1, h2⟩, hb⟩)
  exact bodyPost_ret (v := .tuple #[.int .i64 (p : Int), .bool b]) (by simp [results, Try.results55, go_sem]) rfl ⟨⟨p, b, rfl, h1, h2⟩, hb⟩
end Bu
end Go.Proofs.Ytohnllclkpflaaa

namespace Go.Proofs.Ytohnllclkpflaaa
open Go.RowKit
namespace Lf
open Mem Lx Bu
/-- a row of the call's own, told as a value -/
def EvP (B n : Nat) (X : List Pr) (v : Value) (w : World) : Prop := ∃ A' c', v = .slice A' n c' ∧ P3 w B A' c' X
theorem cloneP1 {W : World} {A : Option Addr} {n c : Nat} {X : List Pr} (h : PL W A X) (hn : X.length = n) (hl : n ≤ 1000000) : Calls Try.prog 42 #[.slice A n c] W fun e w' => (∃ v, e = .returned v ∧ EvP W.heap.size n X v w') ∧ Below W.heap.size W w' := by
  subst hn
  exact (CloneP_any (c := c) h (by omega)).mono fun e w' ⟨⟨A', c', he, hm⟩, hb⟩ => ⟨⟨_, he, A', c', rfl, hm⟩, hb⟩
set_option maxRecDepth 100000 in
set_option maxHeartbeats 4000000 in
theorem Halve_any {W : World} {A : Option Addr} {c : Nat} {L : List Pr} (h : PC W A c L) (hL : ∀ x, x ∈ L → x.1.size ≤ 1000) (_ : PRi L) (hl : L.length ≤ 1000) : Calls Try.prog 23 #[.slice A L.length c] W fun e w' => (∃ A1 c1 A2 c2, e = .returned (.tuple #[.slice A1 (halfP L).1.length c1, .slice A2 (halfP L).2.1.length c2, .string (halfP L).2.2.1, .bool (halfP L).2.2.2]) ∧ P3 w' W.heap.size A1 c1 (halfP L).1 ∧ P3 w' W.heap.size A2 c2 (halfP L).2.1) ∧ Below W.heap.size W w' := by
  rcases Nat.lt_or_ge L.length 2 with h2 | h2
  · rw [halfP_few h2]
    clear h hL
    generalize L.length = n at *
    go_enter Try.func23, Try.ntmps23
    go_wp2_with fail
    exact bodyPost_ret (v := .tuple #[.slice none 0 0, .slice none 0 0, .string ⟨#[]⟩, .bool false]) (by simp [results, Try.results23, go_sem]) rfl ⟨⟨none, 0, none, 0, rfl, VK.nil _ _, VK.nil _ _⟩, Below.refl _ _⟩
  · obtain ⟨k, hk⟩ : ∃ k, k = (L.length + 1) / 2 := ⟨_, rfl⟩
    have hk1 : k - 1 < L.length := by omega
    have hk2 : k < L.length := by omega
    obtain ⟨x, hx⟩ : ∃ x, x = L[k - 1] := ⟨_, rfl⟩
    obtain ⟨y, hy⟩ : ∃ y, y = L[k] := ⟨_, rfl⟩
    have hx' : L[k - 1]? = some x := by rw [hx]; exact List.getElem?_eq_getElem hk1
    have hy' : L[k]? = some y := by rw [hy]; exact List.getElem?_eq_getElem hk2
    have hh := halfP_some (by rw [← hk]; exact hx') (by rw [← hk]; exact hy')
    rw [hh, ← hk]
    simp only
    have hxs := hL x (List.mem_of_getElem? hx')
    have hys := hL y (List.mem_of_getElem? hy')
    obtain ⟨b, o, e, hc⟩ := RdK.pplace h.1 (by omega)
    subst e
    obtain ⟨c0, -⟩ := hc _ x hx'
    obtain ⟨d0, -⟩ := hc _ y hy'
    have HH := Lib.hid h
    have hcc := h.2
    have cC : ∀ w : World, Hid (Calls Try.prog 41 #[.string x.1, .string y.1] w fun e w' => e = .returned (.tuple #[.string (cutB x.1 y.1).1, .bool (cutB x.1 y.1).2]) ∧ Below w.heap.size w w') := fun w => (Cut_any x.1 y.1 w (by unfold maxLen; omega) (by unfold maxLen; omega)).mono fun e w' ⟨he, m, hw⟩ => ⟨he, by subst hw; exact ⟨rfl, rfl, rfl, Nat.le_refl _, fun _ _ => rfl⟩⟩
    generalize cutB x.1 y.1 = ct at *
    obtain ⟨pv, po⟩ := ct
    simp only at cC ⊢
    clear hx hy hh
    have hk3 : k < L.length := hk2
    clear hk1 hk2
    generalize hn : L.length = n at *
    have HN := Lib.hid hn
    have HL1 : Hid ((L.take k).length = k) := by unfold Hid; rw [List.length_take, hn]; omega
    have HL2 : Hid ((L.drop k).length = n - k) := by unfold Hid; rw [List.length_drop, hn]
    obtain ⟨j, hj⟩ : ∃ j, j = k - 1 := ⟨_, rfl⟩
    rw [← hj] at c0
    have hw1 : IntKind.i64.wrap ((n : Int) + 1) = ((n + 1 : Nat) : Int) := by rw [IntKind.wrap_i64]; omega
    have hw2 : IntKind.i64.wrap ((k : Int) - 1) = (j : Int) := by rw [IntKind.wrap_i64]; omega
    have HQ : Hid (((n : Int) + 1) / 2 = (k : Int)) := by unfold Hid; omega
    have hw3 : IntKind.i64.wrap (k : Int) = (k : Int) := by rw [IntKind.wrap_i64]; omega
    have hjn : j < n := by omega
    have hkc : k ≤ c := by omega
    have z0 := fun q : Drift.Tide [] W [] => Drift.Tide.cell c0 (by simp) q
    have z1 := fun q : Drift.Tide [] W [] => Drift.Tide.cell d0 (by simp) q
    have HW : Hid ((L.take k).length = k ∧ (L.drop k).length = n - k) := ⟨HL1.out, HL2.out⟩
    rw [HL1.out, HL2.out]
    clear h hc hx' hy' hk hn hxs hys c0 d0 hj
    go_enter Try.func23, Try.ntmps23
    go_upto_region 4 with fail
    rw [HQ.out]
    refine Drift.wp_region_drift [] [(0,[]),(1,[]),(2,[]),(3,[]),(4,[]),(5,[]),(6,[]),(7,[]),(8,[]),(9,[]),(10,[]),(11,[]),(12,[]),(13,[]),(14,[]),(15,[])] [] [] (by kernel_rfl) (by kernel_rfl) (by simp) ?_
    simp only [Drift.pick, Drift.opsAt, List.getElem?_toArray, List.getElem?_cons_zero, List.getElem?_cons_succ, List.cons_append, List.nil_append, List.filterMap_nil]
    repeat (refine Drift.walk_step (fun K hK => ?_); go_simp; first | (refine hK _ ?_; clear hK K) | (apply Exists.intro; refine ⟨fun q => ?_, hK _ ?_⟩; (go_at_call 41; exact (cC _).out); clear hK K))
    refine Drift.walk_nil ?_
    intro w2 hb _
    have HB : Hid (Below W.heap.size W w2) := hb
    have HM := Lib.hid (HH.out.kept hb)
    have r1 := fun w => run_upToP (some ⟨b, o, none⟩) n c k hkc w
    have r2 := fun w => run_cutP (some ⟨b, o, none⟩) n c k (by omega) w
    clear z0 z1 hb cC HH hw1 hw2 hw3
    simp only [List.length_cons, List.length_nil, List.drop_succ_cons, List.drop_nil, Nat.zero_add, Nat.reduceAdd]
    go_upto_region 5 with fail
    refine Drift.wp_region_drift [] [(0,[]),(1,[]),(2,[]),(4,[]),(5,[]),(6,[]),(8,[]),(3,[]),(7,[]),(9,[]),(10,[]),(11,[]),(12,[])] [3, 7] [] (by kernel_rfl) (by kernel_rfl) (by simp) ?_
    simp only [Drift.pick, Drift.opsAt, List.getElem?_toArray, List.getElem?_cons_zero, List.getElem?_cons_succ, List.cons_append, List.nil_append, List.filterMap_nil]
    repeat (refine Drift.walk_step (fun K hK => ?_); go_simp; (refine hK _ ?_; clear hK K))
    refine Drift.walk_event rfl Drift.mkwalk_nil (EvP W.heap.size k (L.take k)) (fun W2 hk _ => ?_) (fun v w5 hv hI _ hTd => ?_)
    · go_simp
      go_at_call 42
      refine (cloneP1 (X := L.take k) ((HM.out.kept hk).upTo k).1 HL1.out (by omega)).mono ?_
      rintro e w' ⟨⟨v, rfl, A', c', rfl, hv⟩, hb⟩
      exact ⟨_, rfl, ⟨A', c', rfl, hv.mono (Nat.le_trans HB.out.size hk.size)⟩, Flow.Into.of_below hb⟩
    obtain ⟨A1, c1, rfl, hv⟩ := hv
    have HI1 : Hid (Below w2.heap.size w2 w5) := hI.below
    have HV1 := Lib.hid hv
    have HM5 := Lib.hid (HM.out.kept hI.below)
    have HB5 : Hid (Below W.heap.size W w5) := HB.out.trans (hI.below.mono HB.out.size)
    clear hI hv hTd HM
    refine Drift.walk_event rfl Drift.mkwalk_nil (EvP W.heap.size (n - k) (L.drop k)) (fun W2 hk _ => ?_) (fun v w6 hv hI _ hTd => ?_)
    · go_simp
      go_at_call 42
      refine (cloneP1 (X := L.drop k) ((HM5.out.kept hk).cut k).1 HL2.out (by omega)).mono ?_
      rintro e w' ⟨⟨v, rfl, A', c', rfl, hv⟩, hb⟩
      exact ⟨_, rfl, ⟨A', c', rfl, hv.mono (Nat.le_trans HB5.out.size hk.size)⟩, Flow.Into.of_below hb⟩
    obtain ⟨A2, c2, rfl, hv⟩ := hv
    have HV2 := Lib.hid hv
    have HV1' := Lib.hid (HV1.out.kept hI.below)
    have HB6 : Hid (Below W.heap.size W w6) := HB5.out.trans (hI.below.mono HB5.out.size)
    clear hI hv HV1 HM5 HI1 HB5
    repeat (refine Drift.walk_step (fun K hK => ?_); go_simp; (refine hK _ ?_; clear hK K))
    refine Drift.walk_nil ?_
    intro w7 hb7 _
    have HB7 : Hid (Below W.heap.size W w7) := HB6.out.trans (hb7.mono HB6.out.size)
    have HV3 := Lib.hid (HV1'.out.kept hb7)
    have HV4 := Lib.hid (HV2.out.kept hb7)
    clear hTd hb7 HV1' HV2 HB6 r1 r2
    simp only [List.length_cons, List.length_nil, List.drop_succ_cons, List.drop_nil, Nat.zero_add, Nat.reduceAdd]
    go_wp2_with fail
    exact bodyPost_ret (v := .tuple #[.slice A1 k c1, .slice A2 (n - k) c2, .string pv, .bool true]) (by simp [results, Try.results23, go_sem]) rfl ⟨⟨A1, c1, A2, c2, rfl, HV3.out, HV4.out⟩, HB7.out⟩
end Lf
end Go.Proofs.Ytohnllclkpflaaa

namespace Go.Proofs.Ytohnllclkpflaaa
open Go.RowKit
namespace No
open Mem Lx Bu Lf Fa
set_option maxRecDepth 100000 in
set_option maxHeartbeats 2000000 in
theorem RKey_any (c : Cfg) (key : ByteArray) (W : World) : Calls Try.prog 18 #[.agg (cfCs c), .string key] W fun e w' => e = .returned (.bool (keyB c key)) ∧ Below W.heap.size W w' := by
  have HP := Lib.hid (show keyB c key = (decide (1 ≤ (key.size : Int)) && decide ((key.size : Int) ≤ c.key)) from rfl)
  generalize keyB c key = v at *
  unfold cfCs
  obtain ⟨cB, cY, cF, cN, cU, cL, cK, cV⟩ := c
  simp only at *
  by_cases h1 : 1 ≤ (key.size : Int)
  · have HR : Hid (v = decide ((key.size : Int) ≤ cK)) := Lib.hid (by rw [HP.out]; simp [h1])
    clear HP
    go_enter Try.func18, Try.ntmps18
    go_wp2_with fail
    go_ret
    exact ⟨ret_bool HR.out.symm, (Below.refl _ _).alloc (Nat.le_refl _) _⟩
  · have HR : Hid (v = false) := Lib.hid (by rw [HP.out]; simp [h1])
    have h2 : decide (1 ≤ (key.size : Int)) = false := by simpa using h1
    clear HP h1
    go_enter Try.func18, Try.ntmps18
    go_wp2_with fail
    go_ret
    exact ⟨ret_bool HR.out.symm, (Below.refl _ _).alloc (Nat.le_refl _) _⟩

set_option maxRecDepth 100000 in
set_option maxHeartbeats 8000000 in
theorem Router_any {W : World} (c : Cfg) (lo hi : ByteArray) (top : Bool) {n : Nd} {a : At} (h : NdIn W n a) (hf : Fit n) (hlo : lo.size ≤ maxLen) : Calls Try.prog 35 #[.agg (cfCs c), spanV lo hi top, .agg (ndCs n a)] W fun e w' => (∃ v : Bool, e = .returned (.bool v) ∧ (v = true ↔ OuterP c lo hi top n)) ∧ Below W.heap.size W w' := by
  obtain ⟨P, hP⟩ : ∃ P : Prop, P = OuterP c lo hi top n := ⟨_, rfl⟩
  have HP : Hid (P → OuterP c lo hi top n) := fun h => by rw [hP] at h; exact h
  have HQ : Hid (OuterP c lo hi top n → P) := fun h => by rw [hP]; exact h
  rw [← hP]
  clear hP
  have cK := fun (k : ByteArray) (w : World) => Lib.hid (RKey_any c k w)
  obtain ⟨lv, K, L, B, Q⟩ := n
  obtain ⟨kA, kc, pA, pc, bA, bc, qA, qc⟩ := a
  have l1 := hf.kids
  have l2 := hf.piv
  have l3 := hf.buf
  have l4 := hf.prs
  have HKI : Hid (KL W kA K) := h.kids.1
  have HPI : Hid (SL W pA L) := h.piv.1
  have HBU : Hid (RdK MgK W bA B) := h.buf.1
  have HPR : Hid (PL W qA Q) := h.prs.1
  have HSK : Hid (∀ p, p ∈ L → p.size ≤ maxLen) := fun p hp => Nat.le_trans (hf.pk p hp) (by decide)
  have HSB : Hid (∀ m, m ∈ B → m.1.size ≤ maxLen) := fun p hp => Nat.le_trans (hf.bk p hp) (by decide)
  have HSQ : Hid (∀ m, m ∈ Q → m.1.size ≤ maxLen) := fun p hp => Nat.le_trans (hf.qk p hp) (by decide)
  have cI := fun (k : ByteArray) (w : World) (hk : k.size ≤ maxLen) => Lib.hid (RIn_any lo hi top k w hlo hk)
  have cR := fun (w : World) (hb : Below W.heap.size W w) => Lib.hid (Lf.RRight_any (c := qc) (HPR.out.kept hb) HSQ.out (Nat.le_trans l4 (by decide)))
  obtain ⟨cB, cY, cF, cN, cU, cL, cKy, cV⟩ := c
  unfold ndCs cfCs
  unfold cfCs at cK
  simp only at *
  generalize hkn : K.length = kn at *
  generalize hpn : L.length = pn at *
  generalize hbn : B.length = bn at *
  generalize hqn : Q.length = qn at *
  have HKN := Lib.hid hkn
  have HPN := Lib.hid hpn
  have HBN := Lib.hid hbn
  have HQN := Lib.hid hqn
  clear h hf hkn hpn hbn hqn hlo
  go_enter Try.func35, Try.ntmps35
  go_upto_region 1 with fail
  have HB0 := Lib.hid (B3.new W (.cells #[.int .i64 cB, .int .i64 cY, .int .i64 cF, .int .i64 cN, .int .i64 cU, .int .i64 cL, .int .i64 cKy, .int .i64 cV] 23) (.cells #[.string lo, .string hi, .bool top] 25) (.cells #[.int .i64 lv, .slice kA kn kc, .slice pA pn pc, .slice bA bn bc, .slice qA qn qc] 31))
  generalize ((W.alloc (.cells #[.int .i64 cB, .int .i64 cY, .int .i64 cF, .int .i64 cN, .int .i64 cU, .int .i64 cL, .int .i64 cKy, .int .i64 cV] 23)).alloc (.cells #[.string lo, .string hi, .bool top] 25)).alloc (.cells #[.int .i64 lv, .slice kA kn kc, .slice pA pn pc, .slice bA bn bc, .slice qA qn qc] 31) = w1 at *
  obtain ⟨g, hg⟩ : ∃ g, g = W.heap.size := ⟨_, rfl⟩
  rw [← hg] at HB0
  simp only [← hg]
  clear hg
  go_upto_block 0 with fail
  go_cut [] (fun wx => Hid (∀ p, p ∈ Q → PrOk ⟨cB, cY, cF, cN, cU, cL, cKy, cV⟩ lo hi top p) ∧ Hid (B3 W g (.cells #[.int .i64 cB, .int .i64 cY, .int .i64 cF, .int .i64 cN, .int .i64 cU, .int .i64 cL, .int .i64 cKy, .int .i64 cV] 23) (.cells #[.string lo, .string hi, .bool top] 25) (.cells #[.int .i64 lv, .slice kA kn kc, .slice pA pn pc, .slice bA bn bc, .slice qA qn qc] 31) wx))
  case first =>
    go_wp2_with fail
    go_loopg [7] qn (fun gk iv wx => ∃ j : Nat, j ≤ qn ∧ gk = qn - j ∧ iv = .int .i64 (j : Int) ∧ Hid (∀ (i : Nat) (y : Pr), i < j → Q[i]? = some y → PrOk ⟨cB, cY, cF, cN, cU, cL, cKy, cV⟩ lo hi top y) ∧ Hid (B3 W g (.cells #[.int .i64 cB, .int .i64 cY, .int .i64 cF, .int .i64 cN, .int .i64 cU, .int .i64 cL, .int .i64 cKy, .int .i64 cV] 23) (.cells #[.string lo, .string hi, .bool top] 25) (.cells #[.int .i64 lv, .slice kA kn kc, .slice pA pn pc, .slice bA bn bc, .slice qA qn qc] 31) wx))
    case atStart => exact ⟨0, Nat.zero_le _, rfl, rfl, fun i x hi => by omega, HB0⟩
    case round =>
      clear HB0
      obtain ⟨j, hj, rfl, rfl, HJ, HB⟩ := hrel
      obtain ⟨d0, d1, d2, d3, d4⟩ := box5 HB.out.z
      by_cases hlt : j < qn
      · have hjL : j < Q.length := by rw [HQN.out]; exact hlt
        obtain ⟨x, hxx⟩ : ∃ x, x = Q[j] := ⟨_, rfl⟩
        have hx' := nat_len hjL
        rw [← hxx] at hx'
        obtain ⟨b, o, e, -, c0, c1⟩ := RdK.pair (HPR.out.kept HB.out.below) hx'
        subst e
        have HXX := Lib.hid hx'
        have hsz := HSQ.out x (List.mem_of_getElem? hx')
        have hw3 : IntKind.i64.wrap ((j : Int) + 1) = ((j + 1 : Nat) : Int) := by rw [IntKind.wrap_i64]; omega
        clear hxx hx' hjL
        go_upto_region 5 with fail
        have hba : Below wr.heap.size wr (wr.alloc (.cells #[.string x.1, .string x.2] 52)) := (Below.refl _ _).alloc (Nat.le_refl _) _
        have hnew := heap_alloc_new wr (.cells #[.string x.1, .string x.2] 52)
        have HB2 := Lib.hid (HB.out.kept hba)
        generalize wr.alloc (.cells #[.string x.1, .string x.2] 52) = w2 at *
        generalize wr.heap.size = u at *
        have HU := Lib.hid hnew
        clear hba hnew HB d0 d1 d2 d3 d4 c0 c1
        obtain ⟨f0, f1⟩ : w2.cell? ⟨u, 0, none⟩ = some (.string x.1) ∧ w2.cell? ⟨u, 1, none⟩ = some (.string x.2) := by simp [World.cell?, HU.out]
        obtain ⟨e0, e1, e2⟩ := box3 HB2.out.y
        obtain ⟨g0, g1, g2, g3, g4, g5, g6, g7⟩ := box8 HB2.out.x
        have HOK : Hid (keyB ⟨cB, cY, cF, cN, cU, cL, cKy, cV⟩ x.1 = true → inB lo hi top x.1 = true → (x.2.size : Int) ≤ cV → PrOk ⟨cB, cY, cF, cN, cU, cL, cKy, cV⟩ lo hi top x) := fun a b c => ⟨a, b, c⟩
        have HNK : Hid (keyB ⟨cB, cY, cF, cN, cU, cL, cKy, cV⟩ x.1 = false → ¬ P) := fun e hp => by
          have := ((HP.out hp).each x (List.mem_of_getElem? HXX.out)).1
          rw [e] at this
          cases this
        have HNI : Hid (inB lo hi top x.1 = false → ¬ P) := fun e hp => by
          have := ((HP.out hp).each x (List.mem_of_getElem? HXX.out)).2.1
          rw [e] at this
          cases this
        have HNV : Hid (¬ (x.2.size : Int) ≤ cV → ¬ P) := fun e hp => e ((HP.out hp).each x (List.mem_of_getElem? HXX.out)).2.2
        have cX := fun w => cK x.1 w
        have cY' := fun w => cI x.1 w hsz
        generalize keyB ⟨cB, cY, cF, cN, cU, cL, cKy, cV⟩ x.1 = kb at *
        generalize inB lo hi top x.1 = ib at *
        clear hsz
        go_upto_region 5 with fail
        cases kb with
        | false =>
          have HNO := Lib.hid (HNK.out rfl)
          clear HNK HNI HNV HOK
          go_wp2_with (first | (go_at_call 18; refine (cX _).out.mono ?_; rintro e w3 ⟨rfl, hb⟩; replace HU := Lib.hid (kept3 HU.out hb); replace HB2 := Lib.hid (HB2.out.kept hb); clear hb f0 f1 e0 e1 e2 g0 g1 g2 g3 g4 g5 g6 g7; obtain ⟨f0, f1⟩ : w3.cell? ⟨u, 0, none⟩ = some (.string x.1) ∧ w3.cell? ⟨u, 1, none⟩ = some (.string x.2) := (by simp [World.cell?, HU.out]); obtain ⟨e0, e1, e2⟩ := box3 HB2.out.y; obtain ⟨g0, g1, g2, g3, g4, g5, g6, g7⟩ := box8 HB2.out.x) | (go_at_call 17; refine (cY' _).out.mono ?_; rintro e w3 ⟨rfl, hb⟩; replace HU := Lib.hid (kept3 HU.out hb); replace HB2 := Lib.hid (HB2.out.kept hb); clear hb f0 f1 e0 e1 e2 g0 g1 g2 g3 g4 g5 g6 g7; obtain ⟨f0, f1⟩ : w3.cell? ⟨u, 0, none⟩ = some (.string x.1) ∧ w3.cell? ⟨u, 1, none⟩ = some (.string x.2) := (by simp [World.cell?, HU.out]); obtain ⟨e0, e1, e2⟩ := box3 HB2.out.y; obtain ⟨g0, g1, g2, g3, g4, g5, g6, g7⟩ := box8 HB2.out.x))
          go_ret
          exact ⟨⟨false, rfl, (fun h => by cases h), fun h => absurd h HNO.out⟩, HB2.out.below⟩
        | true =>
          cases ib with
          | false =>
            have HNO := Lib.hid (HNI.out rfl)
            clear HNK HNI HNV HOK
            go_wp2_with (first | (go_at_call 18; refine (cX _).out.mono ?_; rintro e w3 ⟨rfl, hb⟩; replace HU := Lib.hid (kept3 HU.out hb); replace HB2 := Lib.hid (HB2.out.kept hb); clear hb f0 f1 e0 e1 e2 g0 g1 g2 g3 g4 g5 g6 g7; obtain ⟨f0, f1⟩ : w3.cell? ⟨u, 0, none⟩ = some (.string x.1) ∧ w3.cell? ⟨u, 1, none⟩ = some (.string x.2) := (by simp [World.cell?, HU.out]); obtain ⟨e0, e1, e2⟩ := box3 HB2.out.y; obtain ⟨g0, g1, g2, g3, g4, g5, g6, g7⟩ := box8 HB2.out.x) | (go_at_call 17; refine (cY' _).out.mono ?_; rintro e w3 ⟨rfl, hb⟩; replace HU := Lib.hid (kept3 HU.out hb); replace HB2 := Lib.hid (HB2.out.kept hb); clear hb f0 f1 e0 e1 e2 g0 g1 g2 g3 g4 g5 g6 g7; obtain ⟨f0, f1⟩ : w3.cell? ⟨u, 0, none⟩ = some (.string x.1) ∧ w3.cell? ⟨u, 1, none⟩ = some (.string x.2) := (by simp [World.cell?, HU.out]); obtain ⟨e0, e1, e2⟩ := box3 HB2.out.y; obtain ⟨g0, g1, g2, g3, g4, g5, g6, g7⟩ := box8 HB2.out.x))
            go_ret
            exact ⟨⟨false, rfl, (fun h => by cases h), fun h => absurd h HNO.out⟩, HB2.out.below⟩
          | true =>
            by_cases hv : (x.2.size : Int) ≤ cV
            · have HJ2 : Hid (∀ (i : Nat) (y : Pr), i < j + 1 → Q[i]? = some y → PrOk ⟨cB, cY, cF, cN, cU, cL, cKy, cV⟩ lo hi top y) := fun i y hi hy => by
                by_cases e : i = j
                · subst e
                  rw [HXX.out] at hy
                  cases hy
                  exact HOK.out rfl rfl hv
                · exact HJ.out i y (by omega) hy
              have hd : decide (cV < (x.2.size : Int)) = false := by simp; omega
              clear hv HNK HNI HNV HOK
              go_wp2_with (first | (go_at_call 18; refine (cX _).out.mono ?_; rintro e w3 ⟨rfl, hb⟩; replace HU := Lib.hid (kept3 HU.out hb); replace HB2 := Lib.hid (HB2.out.kept hb); clear hb f0 f1 e0 e1 e2 g0 g1 g2 g3 g4 g5 g6 g7; obtain ⟨f0, f1⟩ : w3.cell? ⟨u, 0, none⟩ = some (.string x.1) ∧ w3.cell? ⟨u, 1, none⟩ = some (.string x.2) := (by simp [World.cell?, HU.out]); obtain ⟨e0, e1, e2⟩ := box3 HB2.out.y; obtain ⟨g0, g1, g2, g3, g4, g5, g6, g7⟩ := box8 HB2.out.x) | (go_at_call 17; refine (cY' _).out.mono ?_; rintro e w3 ⟨rfl, hb⟩; replace HU := Lib.hid (kept3 HU.out hb); replace HB2 := Lib.hid (HB2.out.kept hb); clear hb f0 f1 e0 e1 e2 g0 g1 g2 g3 g4 g5 g6 g7; obtain ⟨f0, f1⟩ : w3.cell? ⟨u, 0, none⟩ = some (.string x.1) ∧ w3.cell? ⟨u, 1, none⟩ = some (.string x.2) := (by simp [World.cell?, HU.out]); obtain ⟨e0, e1, e2⟩ := box3 HB2.out.y; obtain ⟨g0, g1, g2, g3, g4, g5, g6, g7⟩ := box8 HB2.out.x))
              go_roundg (qn - (j + 1))
              case measure => omega
              case rel => exact ⟨j + 1, hlt, rfl, by go_num, HJ2, HB2⟩
            · have HNO := Lib.hid (HNV.out hv)
              have hd : cV < (x.2.size : Int) := by omega
              clear hv HNK HNI HNV HOK
              go_wp2_with (first | (go_at_call 18; refine (cX _).out.mono ?_; rintro e w3 ⟨rfl, hb⟩; replace HU := Lib.hid (kept3 HU.out hb); replace HB2 := Lib.hid (HB2.out.kept hb); clear hb f0 f1 e0 e1 e2 g0 g1 g2 g3 g4 g5 g6 g7; obtain ⟨f0, f1⟩ : w3.cell? ⟨u, 0, none⟩ = some (.string x.1) ∧ w3.cell? ⟨u, 1, none⟩ = some (.string x.2) := (by simp [World.cell?, HU.out]); obtain ⟨e0, e1, e2⟩ := box3 HB2.out.y; obtain ⟨g0, g1, g2, g3, g4, g5, g6, g7⟩ := box8 HB2.out.x) | (go_at_call 17; refine (cY' _).out.mono ?_; rintro e w3 ⟨rfl, hb⟩; replace HU := Lib.hid (kept3 HU.out hb); replace HB2 := Lib.hid (HB2.out.kept hb); clear hb f0 f1 e0 e1 e2 g0 g1 g2 g3 g4 g5 g6 g7; obtain ⟨f0, f1⟩ : w3.cell? ⟨u, 0, none⟩ = some (.string x.1) ∧ w3.cell? ⟨u, 1, none⟩ = some (.string x.2) := (by simp [World.cell?, HU.out]); obtain ⟨e0, e1, e2⟩ := box3 HB2.out.y; obtain ⟨g0, g1, g2, g3, g4, g5, g6, g7⟩ := box8 HB2.out.x))
              go_ret
              exact ⟨⟨false, rfl, (fun h => by cases h), fun h => absurd h HNO.out⟩, HB2.out.below⟩
      · have HZ : Hid (∀ p, p ∈ Q → PrOk ⟨cB, cY, cF, cN, cU, cL, cKy, cV⟩ lo hi top p) := fun x hx => by
          obtain ⟨i, hi⟩ := List.getElem?_of_mem hx
          have := (List.getElem?_eq_some_iff.1 hi).1
          rw [HQN.out] at this
          exact HJ.out i x (by omega) hi
        obtain rfl : j = qn := by omega
        clear hlt
        go_wp2_with fail
        go_meet
        exact ⟨HZ, HB⟩
  case rest =>
  clear HB0
  obtain ⟨HZ, HB⟩ := hcut
  obtain ⟨d0, d1, d2, d3, d4⟩ := box5 HB.out.z
  obtain ⟨g0, g1, g2, g3, g4, g5, g6, g7⟩ := box8 HB.out.x
  by_cases ekn : kn = 0
  case neg =>
    have hd : ((kn : Int) == 0) = false := by simp; omega
    have HNO : Hid (¬ P) := fun h => ekn (by rw [← HKN.out]; exact (HP.out h).kids)
    clear ekn
    go_wp2_with fail
    go_ret
    exact ⟨⟨false, rfl, (fun h => by cases h), fun h => absurd h HNO.out⟩, HB.out.below⟩
  subst ekn
  by_cases epn : pn = 0
  case neg =>
    have hd : ((pn : Int) == 0) = false := by simp; omega
    have HNO : Hid (¬ P) := fun h => epn (by rw [← HPN.out]; exact (HP.out h).piv)
    clear epn
    go_wp2_with fail
    go_ret
    exact ⟨⟨false, rfl, (fun h => by cases h), fun h => absurd h HNO.out⟩, HB.out.below⟩
  subst epn
  by_cases ebn : bn = 0
  case neg =>
    have hd : ((bn : Int) == 0) = false := by simp; omega
    have HNO : Hid (¬ P) := fun h => ebn (by rw [← HBN.out]; exact (HP.out h).buf)
    clear ebn
    go_wp2_with fail
    go_ret
    exact ⟨⟨false, rfl, (fun h => by cases h), fun h => absurd h HNO.out⟩, HB.out.below⟩
  subst ebn
  by_cases el : (qn : Int) ≤ cL
  case neg =>
    have hd : decide ((qn : Int) ≤ cL) = false := by simpa using el
    have HNO : Hid (¬ P) := fun h => el (by rw [← HQN.out]; exact (HP.out h).few)
    clear el
    go_wp2_with fail
    go_ret
    exact ⟨⟨false, rfl, (fun h => by cases h), fun h => absurd h HNO.out⟩, HB.out.below⟩
  have HFW : Hid ((Q.length : Int) ≤ cL) := Lib.hid (by rw [HQN.out]; exact el)
  have hel : decide ((qn : Int) ≤ cL) = true := by simpa using el
  clear el
  obtain ⟨r, hr⟩ := bool_of (PRise Q)
  have HRR := Lib.hid hr
  clear hr
  have cR2 : Hid (Calls Try.prog 50 #[.slice qA qn qc] wc fun e w' => e = .returned (.bool r) ∧ Below wc.heap.size wc w') := (cR _ HB.out.below).out.mono fun e w' ⟨⟨v, he, hv⟩, hb⟩ => ⟨by rw [he, bool_one hv HRR.out], hb⟩
  have HF : Hid (r = true ↔ P) := ⟨fun h => HQ.out ⟨HZ.out, HKN.out, HPN.out, HBN.out, HFW.out, HRR.out.1 h⟩, fun h => HRR.out.2 (HP.out h).rise⟩
  clear cR
  go_wp2_with (go_at_call 50; refine cR2.out.mono ?_; rintro e w3 ⟨rfl, hb⟩; replace HB := Lib.hid (HB.out.kept hb); clear hb)
  go_ret
  exact ⟨⟨r, rfl, HF.out⟩, HB.out.below⟩
end No
end Go.Proofs.Ytohnllclkpflaaa

namespace Go.Proofs.Ytohnllclkpflaaa
open Go.RowKit
namespace Cf
theorem box8 {w : World} {b : Nat} {v0 v1 v2 v3 v4 v5 v6 v7 : Value} {U : TypeId} (h : w.heap[b]? = some (.cells #[v0, v1, v2, v3, v4, v5, v6, v7] U (0, 0))) : w.cell? ⟨b, 0, none⟩ = some v0 ∧ w.cell? ⟨b, 1, none⟩ = some v1 ∧ w.cell? ⟨b, 2, none⟩ = some v2 ∧ w.cell? ⟨b, 3, none⟩ = some v3 ∧ w.cell? ⟨b, 4, none⟩ = some v4 ∧ w.cell? ⟨b, 5, none⟩ = some v5 ∧ w.cell? ⟨b, 6, none⟩ = some v6 ∧ w.cell? ⟨b, 7, none⟩ = some v7 := by
  simp [World.cell?, h]
theorem kept8 {w w' : World} {b : Nat} {o : Obj} (h : w.heap[b]? = some o) (hb : Below w.heap.size w w') : w'.heap[b]? = some o := (hb.block b (Array.getElem?_eq_some_iff.1 h).1).trans h
theorem bel2 {W w w' : World} (h : Below W.heap.size W w) (hb : Below w.heap.size w w') : Below W.heap.size W w' := h.trans (hb.mono h.size)
theorem in_yes (n lo hi : Int) (W : World) (h1 : lo ≤ n) (h2 : n ≤ hi) : Calls Try.prog 38 #[.int .i64 n, .int .i64 lo, .int .i64 hi] W fun e w' => e = .returned (.bool true) ∧ Below W.heap.size W w' := by
  go_enter Try.func38, Try.ntmps38
  go_wp2
  go_ret
  exact ⟨rfl, Below.refl _ _⟩
theorem in_no (n lo hi : Int) (W : World) (h : ¬ (lo ≤ n ∧ n ≤ hi)) : Calls Try.prog 38 #[.int .i64 n, .int .i64 lo, .int .i64 hi] W fun e w' => e = .returned (.bool false) ∧ Below W.heap.size W w' := by
  by_cases h1 : lo ≤ n
  · have h2 : decide (n ≤ hi) = false := by simp; omega
    clear h
    go_enter Try.func38, Try.ntmps38
    go_wp2
    go_ret
    exact ⟨rfl, Below.refl _ _⟩
  · have h1 : n < lo := by omega
    clear h
    go_enter Try.func38, Try.ntmps38
    go_wp2
    go_ret
    exact ⟨rfl, Below.refl _ _⟩
/-- the settings that say what a node may have are right -/
def Shape (fa bu le ke va : Int) : Prop := (8 ≤ fa ∧ fa ≤ 64) ∧ (2 * fa ≤ bu ∧ bu ≤ 512) ∧ (bu ≤ le ∧ le ≤ 1024) ∧ (1 ≤ ke ∧ ke ≤ 64) ∧ (0 ≤ va ∧ va ≤ 256)
set_option maxRecDepth 100000 in
set_option maxHeartbeats 2000000 in
theorem Sized_yes (b y fr fa bu le ke va : Int) (W : World) (h : Shape fa bu le ke va) : Calls Try.prog 37 #[.agg #[.int .i64 b, .int .i64 y, .int .i64 fr, .int .i64 fa, .int .i64 bu, .int .i64 le, .int .i64 ke, .int .i64 va]] W fun e w' => e = .returned (.bool true) ∧ Below W.heap.size W w' := by
  obtain ⟨⟨h1, h1'⟩, ⟨h2, h2'⟩, ⟨h3, h3'⟩, ⟨h4, h4'⟩, h5, h5'⟩ := h
  have hw : IntKind.i64.wrap (2 * fa) = 2 * fa := by rw [IntKind.wrap_i64]; omega
  go_enter Try.func37, Try.ntmps37
  go_upto_region 1 with fail
  have hx := heap_alloc_new W (.cells #[.int .i64 b, .int .i64 y, .int .i64 fr, .int .i64 fa, .int .i64 bu, .int .i64 le, .int .i64 ke, .int .i64 va] 23)
  have hb1 : Below W.heap.size W (W.alloc (.cells #[.int .i64 b, .int .i64 y, .int .i64 fr, .int .i64 fa, .int .i64 bu, .int .i64 le, .int .i64 ke, .int .i64 va] 23)) := (Below.refl _ _).alloc (Nat.le_refl _) _
  obtain ⟨g, hg⟩ : ∃ g, g = W.heap.size := ⟨_, rfl⟩
  generalize W.alloc (.cells #[.int .i64 b, .int .i64 y, .int .i64 fr, .int .i64 fa, .int .i64 bu, .int .i64 le, .int .i64 ke, .int .i64 va] 23) = w1 at *
  rw [← hg] at hx ⊢
  have HX := Lib.hid hx
  have HB := Lib.hid hb1
  obtain ⟨c0, c1, c2, c3, c4, c5, c6, c7⟩ := box8 hx
  clear hx hb1 hg
  go_wp2_with (go_at_call 38; (first | (refine (in_yes _ _ _ _ (by omega) (by omega)).mono ?_) | (refine (in_no _ _ _ _ (by omega)).mono ?_)); rintro e w' ⟨rfl, hb⟩; replace HX := Lib.hid (kept8 HX.out hb); replace HB := Lib.hid (bel2 HB.out hb); clear hb; obtain ⟨c0, c1, c2, c3, c4, c5, c6, c7⟩ := box8 HX.out)
  go_ret
  exact ⟨rfl, HB.out⟩
set_option maxRecDepth 100000 in
set_option maxHeartbeats 2000000 in
theorem Sized_no (b y fr fa bu le ke va : Int) (W : World) (h : ¬ Shape fa bu le ke va) : Calls Try.prog 37 #[.agg #[.int .i64 b, .int .i64 y, .int .i64 fr, .int .i64 fa, .int .i64 bu, .int .i64 le, .int .i64 ke, .int .i64 va]] W fun e w' => e = .returned (.bool false) ∧ Below W.heap.size W w' := by
  by_cases nfa : 8 ≤ fa ∧ fa ≤ 64
  case neg =>
    clear h
    go_enter Try.func37, Try.ntmps37
    go_upto_region 1 with fail
    have hx := heap_alloc_new W (.cells #[.int .i64 b, .int .i64 y, .int .i64 fr, .int .i64 fa, .int .i64 bu, .int .i64 le, .int .i64 ke, .int .i64 va] 23)
    have hb1 : Below W.heap.size W (W.alloc (.cells #[.int .i64 b, .int .i64 y, .int .i64 fr, .int .i64 fa, .int .i64 bu, .int .i64 le, .int .i64 ke, .int .i64 va] 23)) := (Below.refl _ _).alloc (Nat.le_refl _) _
    obtain ⟨g, hg⟩ : ∃ g, g = W.heap.size := ⟨_, rfl⟩
    generalize W.alloc (.cells #[.int .i64 b, .int .i64 y, .int .i64 fr, .int .i64 fa, .int .i64 bu, .int .i64 le, .int .i64 ke, .int .i64 va] 23) = w1 at *
    rw [← hg] at hx ⊢
    have HX := Lib.hid hx
    have HB := Lib.hid hb1
    obtain ⟨c0, c1, c2, c3, c4, c5, c6, c7⟩ := box8 hx
    clear hx hb1 hg
    go_wp2_with (go_at_call 38; (first | (refine (in_yes _ _ _ _ (by omega) (by omega)).mono ?_) | (refine (in_no _ _ _ _ (by omega)).mono ?_)); rintro e w' ⟨rfl, hb⟩; replace HX := Lib.hid (kept8 HX.out hb); replace HB := Lib.hid (bel2 HB.out hb); clear hb; obtain ⟨c0, c1, c2, c3, c4, c5, c6, c7⟩ := box8 HX.out)
    go_ret
    exact ⟨rfl, HB.out⟩
  by_cases nke : 1 ≤ ke ∧ ke ≤ 64
  case neg =>
    have hw : IntKind.i64.wrap (2 * fa) = 2 * fa := by rw [IntKind.wrap_i64]; omega
    clear h
    obtain ⟨mfa, mfax⟩ := nfa
    go_enter Try.func37, Try.ntmps37
    go_upto_region 1 with fail
    have hx := heap_alloc_new W (.cells #[.int .i64 b, .int .i64 y, .int .i64 fr, .int .i64 fa, .int .i64 bu, .int .i64 le, .int .i64 ke, .int .i64 va] 23)
    have hb1 : Below W.heap.size W (W.alloc (.cells #[.int .i64 b, .int .i64 y, .int .i64 fr, .int .i64 fa, .int .i64 bu, .int .i64 le, .int .i64 ke, .int .i64 va] 23)) := (Below.refl _ _).alloc (Nat.le_refl _) _
    obtain ⟨g, hg⟩ : ∃ g, g = W.heap.size := ⟨_, rfl⟩
    generalize W.alloc (.cells #[.int .i64 b, .int .i64 y, .int .i64 fr, .int .i64 fa, .int .i64 bu, .int .i64 le, .int .i64 ke, .int .i64 va] 23) = w1 at *
    rw [← hg] at hx ⊢
    have HX := Lib.hid hx
    have HB := Lib.hid hb1
    obtain ⟨c0, c1, c2, c3, c4, c5, c6, c7⟩ := box8 hx
    clear hx hb1 hg
    go_wp2_with (go_at_call 38; (first | (refine (in_yes _ _ _ _ (by omega) (by omega)).mono ?_) | (refine (in_no _ _ _ _ (by omega)).mono ?_)); rintro e w' ⟨rfl, hb⟩; replace HX := Lib.hid (kept8 HX.out hb); replace HB := Lib.hid (bel2 HB.out hb); clear hb; obtain ⟨c0, c1, c2, c3, c4, c5, c6, c7⟩ := box8 HX.out)
    go_ret
    exact ⟨rfl, HB.out⟩
  by_cases nva : 0 ≤ va ∧ va ≤ 256
  case neg =>
    have hw : IntKind.i64.wrap (2 * fa) = 2 * fa := by rw [IntKind.wrap_i64]; omega
    clear h
    obtain ⟨mfa, mfax⟩ := nfa
    obtain ⟨mke, mkex⟩ := nke
    go_enter Try.func37, Try.ntmps37
    go_upto_region 1 with fail
    have hx := heap_alloc_new W (.cells #[.int .i64 b, .int .i64 y, .int .i64 fr, .int .i64 fa, .int .i64 bu, .int .i64 le, .int .i64 ke, .int .i64 va] 23)
    have hb1 : Below W.heap.size W (W.alloc (.cells #[.int .i64 b, .int .i64 y, .int .i64 fr, .int .i64 fa, .int .i64 bu, .int .i64 le, .int .i64 ke, .int .i64 va] 23)) := (Below.refl _ _).alloc (Nat.le_refl _) _
    obtain ⟨g, hg⟩ : ∃ g, g = W.heap.size := ⟨_, rfl⟩
    generalize W.alloc (.cells #[.int .i64 b, .int .i64 y, .int .i64 fr, .int .i64 fa, .int .i64 bu, .int .i64 le, .int .i64 ke, .int .i64 va] 23) = w1 at *
    rw [← hg] at hx ⊢
    have HX := Lib.hid hx
    have HB := Lib.hid hb1
    obtain ⟨c0, c1, c2, c3, c4, c5, c6, c7⟩ := box8 hx
    clear hx hb1 hg
    go_wp2_with (go_at_call 38; (first | (refine (in_yes _ _ _ _ (by omega) (by omega)).mono ?_) | (refine (in_no _ _ _ _ (by omega)).mono ?_)); rintro e w' ⟨rfl, hb⟩; replace HX := Lib.hid (kept8 HX.out hb); replace HB := Lib.hid (bel2 HB.out hb); clear hb; obtain ⟨c0, c1, c2, c3, c4, c5, c6, c7⟩ := box8 HX.out)
    go_ret
    exact ⟨rfl, HB.out⟩
  by_cases nbu : 2 * fa ≤ bu ∧ bu ≤ 512
  case neg =>
    have hw : IntKind.i64.wrap (2 * fa) = 2 * fa := by rw [IntKind.wrap_i64]; omega
    clear h
    obtain ⟨mfa, mfax⟩ := nfa
    obtain ⟨mke, mkex⟩ := nke
    obtain ⟨mva, mvax⟩ := nva
    go_enter Try.func37, Try.ntmps37
    go_upto_region 1 with fail
    have hx := heap_alloc_new W (.cells #[.int .i64 b, .int .i64 y, .int .i64 fr, .int .i64 fa, .int .i64 bu, .int .i64 le, .int .i64 ke, .int .i64 va] 23)
    have hb1 : Below W.heap.size W (W.alloc (.cells #[.int .i64 b, .int .i64 y, .int .i64 fr, .int .i64 fa, .int .i64 bu, .int .i64 le, .int .i64 ke, .int .i64 va] 23)) := (Below.refl _ _).alloc (Nat.le_refl _) _
    obtain ⟨g, hg⟩ : ∃ g, g = W.heap.size := ⟨_, rfl⟩
    generalize W.alloc (.cells #[.int .i64 b, .int .i64 y, .int .i64 fr, .int .i64 fa, .int .i64 bu, .int .i64 le, .int .i64 ke, .int .i64 va] 23) = w1 at *
    rw [← hg] at hx ⊢
    have HX := Lib.hid hx
    have HB := Lib.hid hb1
    obtain ⟨c0, c1, c2, c3, c4, c5, c6, c7⟩ := box8 hx
    clear hx hb1 hg
    go_wp2_with (go_at_call 38; (first | (refine (in_yes _ _ _ _ (by omega) (by omega)).mono ?_) | (refine (in_no _ _ _ _ (by omega)).mono ?_)); rintro e w' ⟨rfl, hb⟩; replace HX := Lib.hid (kept8 HX.out hb); replace HB := Lib.hid (bel2 HB.out hb); clear hb; obtain ⟨c0, c1, c2, c3, c4, c5, c6, c7⟩ := box8 HX.out)
    go_ret
    exact ⟨rfl, HB.out⟩
  by_cases nle : bu ≤ le ∧ le ≤ 1024
  case neg =>
    have hw : IntKind.i64.wrap (2 * fa) = 2 * fa := by rw [IntKind.wrap_i64]; omega
    clear h
    obtain ⟨mfa, mfax⟩ := nfa
    obtain ⟨mke, mkex⟩ := nke
    obtain ⟨mva, mvax⟩ := nva
    obtain ⟨mbu, mbux⟩ := nbu
    go_enter Try.func37, Try.ntmps37
    go_upto_region 1 with fail
    have hx := heap_alloc_new W (.cells #[.int .i64 b, .int .i64 y, .int .i64 fr, .int .i64 fa, .int .i64 bu, .int .i64 le, .int .i64 ke, .int .i64 va] 23)
    have hb1 : Below W.heap.size W (W.alloc (.cells #[.int .i64 b, .int .i64 y, .int .i64 fr, .int .i64 fa, .int .i64 bu, .int .i64 le, .int .i64 ke, .int .i64 va] 23)) := (Below.refl _ _).alloc (Nat.le_refl _) _
    obtain ⟨g, hg⟩ : ∃ g, g = W.heap.size := ⟨_, rfl⟩
    generalize W.alloc (.cells #[.int .i64 b, .int .i64 y, .int .i64 fr, .int .i64 fa, .int .i64 bu, .int .i64 le, .int .i64 ke, .int .i64 va] 23) = w1 at *
    rw [← hg] at hx ⊢
    have HX := Lib.hid hx
    have HB := Lib.hid hb1
    obtain ⟨c0, c1, c2, c3, c4, c5, c6, c7⟩ := box8 hx
    clear hx hb1 hg
    go_wp2_with (go_at_call 38; (first | (refine (in_yes _ _ _ _ (by omega) (by omega)).mono ?_) | (refine (in_no _ _ _ _ (by omega)).mono ?_)); rintro e w' ⟨rfl, hb⟩; replace HX := Lib.hid (kept8 HX.out hb); replace HB := Lib.hid (bel2 HB.out hb); clear hb; obtain ⟨c0, c1, c2, c3, c4, c5, c6, c7⟩ := box8 HX.out)
    go_ret
    exact ⟨rfl, HB.out⟩
  exact absurd ⟨nfa, nbu, nle, nke, nva⟩ h
end Cf
end Go.Proofs.Ytohnllclkpflaaa

namespace Go.Proofs.Ytohnllclkpflaaa
open Go.RowKit
namespace Cf
def inn (fa bu ke va : Int) : Int := 8 + 4 * fa + (fa - 1) * (1 + ke) + bu * (4 + ke + va)
def out (le ke va : Int) : Int := 8 + le * (3 + ke + va)
theorem mul_in {a c A C : Int} (h0 : 0 ≤ a) (h1 : a ≤ A) (h2 : 0 ≤ c) (h3 : c ≤ C) : 0 ≤ a * c ∧ a * c ≤ A * C :=
  ⟨Int.mul_nonneg h0 h2, Int.mul_le_mul h1 h3 h2 (Int.le_trans h0 h1)⟩
/-- the fewest bytes -/
def few (fa bu le ke va : Int) : Int := max (max 64 (inn fa bu ke va)) (out le ke va)
theorem inn_in {fa bu le ke va : Int} (h : Shape fa bu le ke va) : 0 ≤ inn fa bu ke va ∧ inn fa bu ke va ≤ 200000 := by
  obtain ⟨⟨h1, h1'⟩, ⟨h2, h2'⟩, ⟨h3, h3'⟩, ⟨h4, h4'⟩, h5, h5'⟩ := h
  obtain ⟨p0, p1⟩ := mul_in (a := fa - 1) (c := 1 + ke) (A := 63) (C := 65) (by omega) (by omega) (by omega) (by omega)
  obtain ⟨s0, s1⟩ := mul_in (a := bu) (c := 4 + ke + va) (A := 512) (C := 324) (by omega) (by omega) (by omega) (by omega)
  unfold inn
  generalize (fa - 1) * (1 + ke) = P at *
  generalize bu * (4 + ke + va) = Q at *
  omega
theorem out_in {fa bu le ke va : Int} (h : Shape fa bu le ke va) : 0 ≤ out le ke va ∧ out le ke va ≤ 400000 := by
  obtain ⟨⟨h1, h1'⟩, ⟨h2, h2'⟩, ⟨h3, h3'⟩, ⟨h4, h4'⟩, h5, h5'⟩ := h
  obtain ⟨p0, p1⟩ := mul_in (a := le) (c := 3 + ke + va) (A := 1024) (C := 323) (by omega) (by omega) (by omega) (by omega)
  unfold out
  generalize le * (3 + ke + va) = P at *
  omega
end Cf
end Go.Proofs.Ytohnllclkpflaaa
namespace Go.Proofs.Ytohnllclkpflaaa
open Go.RowKit
namespace Cf
/-- settings are right -/
def Right (b y fr fa bu le ke va : Int) : Prop := Shape fa bu le ke va ∧ (5 ≤ b ∧ b ≤ 65536) ∧ (8 ≤ fr ∧ fr ≤ 64) ∧ (few fa bu le ke va ≤ y ∧ y ≤ 65536)
end Cf
end Go.Proofs.Ytohnllclkpflaaa
