/-
  OrdC FanRightC BufRightC LeafRightC, in one text. Written by merge.py.
-/
import Derived.Test.YtlcdjbleeanpbaaCmpC
import Derived.Test.YtlcdjbleeanpbaaFanP
import Derived.Test.YtlcdjbleeanpbaaDrift
import Derived.Test.YtlcdjbleeanpbaaBox3
import Derived.Test.YtlcdjbleeanpbaaMsgRS
import Derived.Test.YtlcdjbleeanpbaaPairRS

namespace Go.Proofs.Ytlcdjbleeanpbaa
open Go.RowKit
namespace Lx

set_option maxHeartbeats 1000000 in
set_option maxRecDepth 100000 in
theorem In_any (lo hi : ByteArray) (top : Bool) (key : ByteArray) (w : World) :
    Calls Try.prog 66 #[spanV lo hi top, .string key] w fun e w' => e = .returned (.bool (inB lo hi top key)) ∧ Below w.heap.size w w' := by
  by_cases h1 : cmpB lo key ≤ 0
  · cases top
    · have HR : Hid (inB lo hi false key = decide (cmpB key hi < 0)) := Lib.hid (by simp [inB, h1])
      go_enter Try.func66, Try.ntmps66
      go_wp2_with (go_at_call 63; refine (Compare_any _ _ _).mono ?_; rintro e w' ⟨rfl, rfl⟩)
      go_ret
      exact ⟨ret_bool (by rw [HR.out]), (Below.refl _ _).alloc (Nat.le_refl _) _⟩
    · have HR : Hid (inB lo hi true key = true) := Lib.hid (by simp [inB, h1])
      go_enter Try.func66, Try.ntmps66
      go_wp2_with (go_at_call 63; refine (Compare_any _ _ _).mono ?_; rintro e w' ⟨rfl, rfl⟩)
      go_ret
      exact ⟨ret_bool (by rw [HR.out]), (Below.refl _ _).alloc (Nat.le_refl _) _⟩
  · have HR : Hid (inB lo hi top key = false) := Lib.hid (by simp [inB, h1])
    have h1' : decide (cmpB lo key ≤ 0) = false := by simpa using h1
    go_enter Try.func66, Try.ntmps66
    go_wp2_with (go_at_call 63; refine (Compare_any _ _ _).mono ?_; rintro e w' ⟨rfl, rfl⟩)
    go_ret
    exact ⟨ret_bool (by rw [HR.out]), (Below.refl _ _).alloc (Nat.le_refl _) _⟩
end Lx
end Go.Proofs.Ytlcdjbleeanpbaa

namespace Go.Proofs.Ytlcdjbleeanpbaa
open Go.RowKit
namespace Fa
open Mem Lx Bu
/-- what stands ahead of place i: the span's front, or the pivot there -/
def ahdS (L : List ByteArray) (lo : ByteArray) : Nat → ByteArray
  | 0 => lo
  | i + 1 => (L[i]?).getD lo
theorem right_iff {L : List ByteArray} {lo hi : ByteArray} {top : Bool} : RightS L lo hi top ↔ ∀ (i : Nat) (x : ByteArray), L[i]? = some x → cmpB (ahdS L lo i) x < 0 ∧ inB lo hi top x = true := by
  constructor
  · rintro ⟨h1, h2⟩ i x hx
    have h3 := h1 x (List.mem_of_getElem? hx)
    refine ⟨?_, h3.1⟩
    cases i with
    | zero =>
      show cmpB lo x < 0
      have h4 := (inB_iff.1 h3.1).1
      rcases cmpB_tri lo x with h5 | h5 | h5
      · exact h5
      · exact absurd h5.symm h3.2
      · have := cmpB_neg lo x
        omega
    | succ i =>
      obtain ⟨y, hy⟩ : ∃ y, L[i]? = some y := ⟨L[i]'(by have := (List.getElem?_eq_some_iff.1 hx).1; omega), List.getElem?_eq_getElem _⟩
      show cmpB ((L[i]?).getD lo) x < 0
      rw [hy]
      exact h2 i y x hy hx
  · intro h
    have hr : SRise L := fun i a b ha hb => by
      have this : cmpB ((L[i]?).getD lo) b < 0 := (h (i + 1) b hb).1
      rw [ha] at this
      exact this
    refine ⟨fun p hp => ?_, hr⟩
    obtain ⟨i, hi⟩ := List.mem_iff_getElem?.1 hp
    refine ⟨(h i p hi).2, ?_⟩
    obtain ⟨x0, h0⟩ : ∃ x0, L[0]? = some x0 := ⟨L[0]'(by have := (List.getElem?_eq_some_iff.1 hi).1; omega), List.getElem?_eq_getElem _⟩
    have h1 := (h 0 _ h0).1
    rcases Nat.eq_zero_or_pos i with rfl | h2
    · rw [hi] at h0
      cases h0
      exact (cmpB_ne h1).symm
    · exact (cmpB_ne (cmpB_trans h1 ((srise_iff.1 hr).at_ h0 hi h2))).symm
set_option maxRecDepth 100000 in
set_option maxHeartbeats 4000000 in
set_option maxRecDepth 100000 in
theorem Right_c {W : World} {A : Option Addr} {c : Nat} {L : List ByteArray} (h : SC W A c L) (lo hi : ByteArray) (top : Bool) (hl : L.length ≤ 1000) : Calls Try.prog 54 #[.slice A L.length c, .agg #[.string lo, .string hi, .bool top]] W fun e w' => (∃ v : Bool, e = .returned (.bool v) ∧ (v = true ↔ RightS L lo hi top)) ∧ Below W.heap.size W w' := by
  have HH : Hid (SL W A L) := h.1
  obtain ⟨P, hP⟩ : ∃ P : Prop, P = RightS L lo hi top := ⟨_, rfl⟩
  have HP : Hid (P ↔ ∀ (i : Nat) (x : ByteArray), L[i]? = some x → cmpB (ahdS L lo i) x < 0 ∧ inB lo hi top x = true) := by rw [hP]; exact right_iff
  rw [← hP]
  generalize hn : L.length = n at *
  have HN := Lib.hid hn
  clear h hn hP
  go_enter Try.func54, Try.ntmps54
  go_upto_region 1 with fail
  have hx := heap_alloc_new W (.cells #[.string lo, .string hi, .bool top] 25)
  have hb0 : Below W.heap.size W (W.alloc (.cells #[.string lo, .string hi, .bool top] 25)) := (Below.refl _ _).alloc (Nat.le_refl _) _
  generalize W.alloc (.cells #[.string lo, .string hi, .bool top] 25) = w1 at *
  obtain ⟨g, hg⟩ : ∃ g, g = W.heap.size := ⟨_, rfl⟩
  rw [← hg] at hx ⊢
  obtain ⟨d0, d1, d2⟩ := box3 hx
  have HX := Lib.hid hx
  have HB := Lib.hid hb0
  clear hx hb0 hg
  go_upto_region 2 with fail
  clear d0 d1 d2
  go_wp2_with fail
  go_loopg [5, 12] n (fun gk av iv wr => ∃ k : Nat, k ≤ n ∧ gk = n - k ∧ av = .string (ahdS L lo k) ∧ iv = .int .i64 (k : Int) ∧ Hid (∀ (i : Nat) (x : ByteArray), i < k → L[i]? = some x → cmpB (ahdS L lo i) x < 0 ∧ inB lo hi top x = true) ∧ Hid (Below W.heap.size W wr ∧ wr.heap[g]? = some (.cells #[.string lo, .string hi, .bool top] 25 (0, 0))))
  case atStart => exact ⟨0, Nat.zero_le _, rfl, rfl, rfl, fun i x hi => by omega, HB.out, HX.out⟩
  case round =>
    clear HB HX
    obtain ⟨k, hkn, rfl, rfl, rfl, HE, HB⟩ := hrel
    by_cases hlt : k < n
    · have hj : k < L.length := by rw [HN.out]; exact hlt
      obtain ⟨x, hx⟩ : ∃ x, x = L[k] := ⟨_, rfl⟩
      have hx' := nat_lenS hj
      rw [← hx] at hx'
      obtain ⟨b, o, e, -, c0⟩ := RdK.str (HH.out.kept HB.out.1) hx'
      subst e
      obtain ⟨d0, d1, d2⟩ := box3 HB.out.2
      have HXX := Lib.hid hx'
      have HA2 : Hid (ahdS L lo (k + 1) = x) := by
        show (L[k]?).getD lo = x
        rw [hx']
        rfl
      have hw : IntKind.i64.wrap ((k : Int) + 1) = ((k + 1 : Nat) : Int) := by rw [IntKind.wrap_i64]; omega
      obtain ⟨a, ha⟩ : ∃ a, a = ahdS L lo k := ⟨_, rfl⟩
      rw [← ha]
      have HAA := Lib.hid ha
      have cC := fun w => Lib.hid (Compare_any a x w)
      have cI := fun w => Lib.hid (In_any lo hi top x w)
      clear hx hx' hj ha
      by_cases hz : cmpB a x < 0
      · have HE2 : Hid (inB lo hi top x = true → ∀ (i : Nat) (y : ByteArray), i < k + 1 → L[i]? = some y → cmpB (ahdS L lo i) y < 0 ∧ inB lo hi top y = true) := fun hin i y hi hy => by
          by_cases e : i = k
          · subst e
            rw [HXX.out] at hy
            cases hy
            exact ⟨by rw [← HAA.out]; exact hz, hin⟩
          · exact HE.out i y (by omega) hy
        have hd : decide (0 ≤ cmpB a x) = false := by simpa using hz
        clear hz
        generalize cmpB a x = z at *
        obtain ⟨t, ht⟩ : ∃ t, t = inB lo hi top x := ⟨_, rfl⟩
        rw [← ht] at cI
        have HT := Lib.hid ht
        clear ht
        cases t with
        | true =>
          go_wp2_with first | (go_at_call 63; refine (cC _).out.mono ?_; rintro e w' ⟨rfl, rfl⟩) | (go_at_call 66; refine (cI _).out.mono ?_; rintro e w' ⟨rfl, hb⟩)
          have HB2 : Hid (Below W.heap.size W w' ∧ w'.heap[g]? = some (.cells #[.string lo, .string hi, .bool top] 25 (0, 0))) := ⟨HB.out.1.trans (hb.mono HB.out.1.size), kept3 HB.out.2 hb⟩
          go_roundg (n - (k + 1))
          case measure => omega
          case rel => exact ⟨k + 1, hlt, rfl, by rw [HA2.out], by go_num, HE2.out HT.out.symm, HB2⟩
        | false =>
          have HF : Hid (¬ P) := fun hp => by
            have := (HP.out.1 hp k x HXX.out).2
            rw [← HT.out] at this
            cases this
          go_wp2_with first | (go_at_call 63; refine (cC _).out.mono ?_; rintro e w' ⟨rfl, rfl⟩) | (go_at_call 66; refine (cI _).out.mono ?_; rintro e w' ⟨rfl, hb⟩)
          go_ret
          exact ⟨⟨false, rfl, by simpa using HF.out⟩, HB.out.1.trans (hb.mono HB.out.1.size)⟩
      · have HF : Hid (¬ P) := fun hp => by
          have := (HP.out.1 hp k x HXX.out).1
          rw [← HAA.out] at this
          exact hz this
        have hd : 0 ≤ cmpB a x := by omega
        clear hz
        generalize cmpB a x = z at *
        go_wp2_with (go_at_call 63; refine (cC _).out.mono ?_; rintro e w' ⟨rfl, rfl⟩)
        go_ret
        exact ⟨⟨false, rfl, by simpa using HF.out⟩, HB.out.1⟩
    · have HT : Hid P := HP.out.2 fun i x hx => HE.out i x (by
        have := (List.getElem?_eq_some_iff.1 hx).1
        rw [HN.out] at this
        omega) hx
      obtain rfl : k = n := by omega
      clear hlt
      go_wp2_with fail
      go_ret
      exact ⟨⟨true, rfl, by simpa using HT.out⟩, HB.out.1⟩
theorem Right_any {W : World} {A : Option Addr} {c : Nat} {L : List ByteArray} (h : SC W A c L) (lo hi : ByteArray) (top : Bool) (_ : lo.size ≤ 1000) (_ : hi.size ≤ 1000) (_ : ∀ m, m ∈ L → m.size ≤ 1000) (hl : L.length ≤ 1000) : Calls Try.prog 54 #[.slice A L.length c, .agg #[.string lo, .string hi, .bool top]] W fun e w' => (∃ v : Bool, e = .returned (.bool v) ∧ (v = true ↔ RightS L lo hi top)) ∧ Below W.heap.size W w' := Right_c h lo hi top hl
end Fa
end Go.Proofs.Ytlcdjbleeanpbaa

namespace Go.Proofs.Ytlcdjbleeanpbaa
open Go.RowKit
namespace Bu
open Mem Lx
set_option maxRecDepth 100000 in
set_option maxHeartbeats 2000000 in
set_option maxRecDepth 100000 in
theorem Right_any {W : World} {A : Option Addr} {c : Nat} {L : List Mg} (h : ML W A L) (hk : ∀ m, m ∈ L → m.1.size ≤ maxLen) (hl : L.length ≤ 1048576) : Calls Try.prog 55 #[.slice A L.length c] W fun e w' => (∃ v : Bool, e = .returned (.bool v) ∧ (v = true ↔ Rise L)) ∧ Below W.heap.size W w' := by
  obtain ⟨n, hn⟩ : ∃ n, n = L.length := ⟨_, rfl⟩
  have HN := Lib.hid hn
  have HH := Lib.hid h
  have HK := Lib.hid hk
  rw [← hn] at hl ⊢
  clear h hk hn
  go_enter Try.func55, Try.ntmps55
  go_wp2_with fail
  go_loopg [3] (n - 1) (fun gk iv wr => ∃ k : Nat, 1 ≤ k ∧ (k = 1 ∨ k ≤ n) ∧ gk = n - k ∧ iv = .int .i64 (k : Int) ∧ Hid (∀ (i : Nat) (a b : Mg), i + 1 < k → L[i]? = some a → L[i + 1]? = some b → cmpB a.1 b.1 < 0) ∧ Hid (Below W.heap.size W wr))
  case atStart => exact ⟨1, Nat.le_refl _, .inl rfl, rfl, rfl, fun i a b hi => by omega, Below.refl _ _⟩
  case round =>
    obtain ⟨k, hk1, hkn, rfl, rfl, HE, HB⟩ := hrel
    by_cases hlt : k < n
    · obtain ⟨j, hjk⟩ : ∃ j, k = j + 1 := ⟨k - 1, by omega⟩
      have hj : j < L.length := by rw [← HN.out]; omega
      have hj1 : k < L.length := by rw [← HN.out]; omega
      obtain ⟨x, hx⟩ : ∃ x, x = L[j] := ⟨_, rfl⟩
      obtain ⟨y, hy⟩ : ∃ y, y = L[k] := ⟨_, rfl⟩
      have hx' := nat_len hj
      have hy' := nat_len hj1
      rw [← hx] at hx'
      rw [← hy] at hy'
      obtain ⟨b, o, e, hc⟩ := RdK.place (HH.out.kept HB.out) (Nat.lt_of_le_of_lt (Nat.zero_le _) hj)
      subst e
      obtain ⟨c0, -, -⟩ := hc j x hx'
      obtain ⟨c1, -, -⟩ := hc k y hy'
      have cC := fun w => Lib.hid (CCmp x.1 y.1 w)
      have HX := Lib.hid hx'
      have HY := Lib.hid hy'
      have z0 := fun q : Drift.Tide [] wr [] => Drift.Tide.cell c0 (by simp) q
      have z1 := fun q : Drift.Tide [] wr [] => Drift.Tide.cell c1 (by simp) q
      have hw1 : IntKind.i64.wrap ((k : Int) - 1) = (j : Int) := by rw [IntKind.wrap_i64]; omega
      have hw2 : IntKind.i64.wrap ((k : Int) + 1) = ((k + 1 : Nat) : Int) := by rw [IntKind.wrap_i64]; omega
      have HJ := Lib.hid hjk
      have hjn : j < n := by omega
      clear hc c0 c1 hx hy hx' hy' hj hj1 hjk
      go_upto_region 4 with fail
      refine Drift.wp_region_drift [] [(0,[]),(1,[]),(2,[]),(3,[]),(4,[]),(5,[]),(6,[]),(7,[]),(8,[]),(9,[]),(10,[]),(11,[]),(12,[])] [] [] (by kernel_rfl) (by kernel_rfl) (by simp) ?_
      simp only [Drift.pick, Drift.opsAt, List.getElem?_toArray, List.getElem?_cons_zero, List.getElem?_cons_succ, List.cons_append, List.nil_append, List.filterMap_nil]
      repeat (refine Drift.walk_step (fun K hK => ?_); go_simp; first | (refine hK _ ?_; clear hK K) | (apply Exists.intro; refine ⟨fun q => ?_, hK _ ?_⟩; (go_at_call 63; exact (cC _).out); clear hK K))
      refine Drift.walk_nil ?_
      intro w2 hb _
      have HB2 := Lib.hid (HB.out.trans (hb.mono HB.out.size))
      clear z0 z1 hw1 hb HB cC
      simp only [List.length_cons, List.length_nil, List.drop_succ_cons, List.drop_nil, Nat.zero_add, Nat.reduceAdd]
      by_cases hcm : cmpB x.1 y.1 < 0
      · have hd : decide (0 ≤ cmpB x.1 y.1) = false := by simpa using hcm
        have HE2 : Hid (∀ (i : Nat) (a b : Mg), i + 1 < k + 1 → L[i]? = some a → L[i + 1]? = some b → cmpB a.1 b.1 < 0) := fun i a b hi ha hb => by
          by_cases e : i = j
          · subst e
            rw [HX.out] at ha
            rw [← HJ.out, HY.out] at hb
            cases ha
            cases hb
            exact hcm
          · exact HE.out i a b (by have := HJ.out; omega) ha hb
        generalize cmpB x.1 y.1 = z at *
        clear hd
        go_wp2_with fail
        go_roundg (n - (k + 1))
        case measure => omega
        case rel => exact ⟨k + 1, by omega, .inr hlt, rfl, by go_num, HE2, HB2⟩
      · have HN2 : Hid (¬ Rise L) := fun hr => hcm (hr j x y HX.out (by rw [← HJ.out]; exact HY.out))
        have hd : 0 ≤ cmpB x.1 y.1 := by omega
        clear hcm
        generalize cmpB x.1 y.1 = z at *
        go_wp2_with fail
        go_ret
        exact ⟨⟨false, rfl, by simpa using HN2.out⟩, HB2.out⟩
    · have HR : Hid (Rise L) := fun i a b ha hb => HE.out i a b (by
        have := (List.getElem?_eq_some_iff.1 hb).1
        rw [← HN.out] at this
        omega) ha hb
      have hge : n ≤ k := by omega
      have hd : decide ((k : Int) < (n : Int)) = false := by simp; omega
      clear hlt
      go_wp2_with fail
      go_ret
      exact ⟨⟨true, rfl, by simpa using HR.out⟩, HB.out⟩
end Bu
end Go.Proofs.Ytlcdjbleeanpbaa

namespace Go.Proofs.Ytlcdjbleeanpbaa
open Go.RowKit
namespace Lf
open Mem Lx Bu
set_option maxRecDepth 100000 in
set_option maxHeartbeats 2000000 in
set_option maxRecDepth 100000 in
theorem Right_any {W : World} {A : Option Addr} {c : Nat} {L : List Pr} (h : PL W A L) (hl : L.length ≤ 1048576) : Calls Try.prog 51 #[.slice A L.length c] W fun e w' => (∃ v : Bool, e = .returned (.bool v) ∧ (v = true ↔ PRise L)) ∧ Below W.heap.size W w' := by
  obtain ⟨n, hn⟩ : ∃ n, n = L.length := ⟨_, rfl⟩
  have HN := Lib.hid hn
  have HH := Lib.hid h
  rw [← hn] at hl ⊢
  clear h hn
  go_enter Try.func51, Try.ntmps51
  go_wp2_with fail
  go_loopg [3] (n - 1) (fun gk iv wr => ∃ k : Nat, 1 ≤ k ∧ (k = 1 ∨ k ≤ n) ∧ gk = n - k ∧ iv = .int .i64 (k : Int) ∧ Hid (∀ (i : Nat) (a b : Pr), i + 1 < k → L[i]? = some a → L[i + 1]? = some b → cmpB a.1 b.1 < 0) ∧ Hid (Below W.heap.size W wr))
  case atStart => exact ⟨1, Nat.le_refl _, .inl rfl, rfl, rfl, fun i a b hi => by omega, Below.refl _ _⟩
  case round =>
    obtain ⟨k, hk1, hkn, rfl, rfl, HE, HB⟩ := hrel
    by_cases hlt : k < n
    · obtain ⟨j, hjk⟩ : ∃ j, k = j + 1 := ⟨k - 1, by omega⟩
      have hj : j < L.length := by rw [← HN.out]; omega
      have hj1 : k < L.length := by rw [← HN.out]; omega
      obtain ⟨x, hx⟩ : ∃ x, x = L[j] := ⟨_, rfl⟩
      obtain ⟨y, hy⟩ : ∃ y, y = L[k] := ⟨_, rfl⟩
      have hx' := nat_len hj
      have hy' := nat_len hj1
      rw [← hx] at hx'
      rw [← hy] at hy'
      obtain ⟨b, o, e, hc⟩ := RdK.pplace (HH.out.kept HB.out) (Nat.lt_of_le_of_lt (Nat.zero_le _) hj)
      subst e
      obtain ⟨c0, -⟩ := hc j x hx'
      obtain ⟨c1, -⟩ := hc k y hy'
      have cC := fun w => Lib.hid (CCmp x.1 y.1 w)
      have HX := Lib.hid hx'
      have HY := Lib.hid hy'
      have z0 := fun q : Drift.Tide [] wr [] => Drift.Tide.cell c0 (by simp) q
      have z1 := fun q : Drift.Tide [] wr [] => Drift.Tide.cell c1 (by simp) q
      have hw1 : IntKind.i64.wrap ((k : Int) - 1) = (j : Int) := by rw [IntKind.wrap_i64]; omega
      have hw2 : IntKind.i64.wrap ((k : Int) + 1) = ((k + 1 : Nat) : Int) := by rw [IntKind.wrap_i64]; omega
      have HJ := Lib.hid hjk
      have hjn : j < n := by omega
      clear hc c0 c1 hx hy hx' hy' hj hj1 hjk
      go_upto_region 4 with fail
      refine Drift.wp_region_drift [] [(0,[]),(1,[]),(2,[]),(3,[]),(4,[]),(5,[]),(6,[]),(7,[]),(8,[]),(9,[]),(10,[]),(11,[]),(12,[])] [] [] (by kernel_rfl) (by kernel_rfl) (by simp) ?_
      simp only [Drift.pick, Drift.opsAt, List.getElem?_toArray, List.getElem?_cons_zero, List.getElem?_cons_succ, List.cons_append, List.nil_append, List.filterMap_nil]
      repeat (refine Drift.walk_step (fun K hK => ?_); go_simp; first | (refine hK _ ?_; clear hK K) | (apply Exists.intro; refine ⟨fun q => ?_, hK _ ?_⟩; (go_at_call 63; exact (cC _).out); clear hK K))
      refine Drift.walk_nil ?_
      intro w2 hb _
      have HB2 := Lib.hid (HB.out.trans (hb.mono HB.out.size))
      clear z0 z1 hw1 hb HB cC
      simp only [List.length_cons, List.length_nil, List.drop_succ_cons, List.drop_nil, Nat.zero_add, Nat.reduceAdd]
      by_cases hcm : cmpB x.1 y.1 < 0
      · have hd : decide (0 ≤ cmpB x.1 y.1) = false := by simpa using hcm
        have HE2 : Hid (∀ (i : Nat) (a b : Pr), i + 1 < k + 1 → L[i]? = some a → L[i + 1]? = some b → cmpB a.1 b.1 < 0) := fun i a b hi ha hb => by
          by_cases e : i = j
          · subst e
            rw [HX.out] at ha
            rw [← HJ.out, HY.out] at hb
            cases ha
            cases hb
            exact hcm
          · exact HE.out i a b (by have := HJ.out; omega) ha hb
        generalize cmpB x.1 y.1 = z at *
        clear hd
        go_wp2_with fail
        go_roundg (n - (k + 1))
        case measure => omega
        case rel => exact ⟨k + 1, by omega, .inr hlt, rfl, by go_num, HE2, HB2⟩
      · have HN2 : Hid (¬ PRise L) := fun hr => hcm (hr j x y HX.out (by rw [← HJ.out]; exact HY.out))
        have hd : 0 ≤ cmpB x.1 y.1 := by omega
        clear hcm
        generalize cmpB x.1 y.1 = z at *
        go_wp2_with fail
        go_ret
        exact ⟨⟨false, rfl, by simpa using HN2.out⟩, HB2.out⟩
    · have HR : Hid (PRise L) := fun i a b ha hb => HE.out i a b (by
        have := (List.getElem?_eq_some_iff.1 hb).1
        rw [← HN.out] at this
        omega) ha hb
      have hge : n ≤ k := by omega
      have hd : decide ((k : Int) < (n : Int)) = false := by simp; omega
      clear hlt
      go_wp2_with fail
      go_ret
      exact ⟨⟨true, rfl, by simpa using HR.out⟩, HB.out⟩
end Lf
end Go.Proofs.Ytlcdjbleeanpbaa
