/-
  The code's fan: Right, Way, Span.
-/
import Derived.Test.YtokmnjbcnapmcaaFanR2
import Derived.Test.YtokmnjbcnapmcaaOrdC
import Derived.Test.YtokmnjbcnapmcaaSpanC
namespace Go.Proofs.Ytokmnjbcnapmcaa
open Go.RowKit
namespace Fa
open Mem Lx Bu
/-- what stands ahead of place i: the span's front, or the pivot there -/
def ahdS (L : List ByteArray) (lo : ByteArray) : Nat → ByteArray
  | 0 => lo
  | i + 1 => (L[i]?).getD lo
theorem right_iff {L : List ByteArray} {lo hi : ByteArray} {top : Bool} : RightS L lo hi top ↔ ∀ (i : Nat) (x : ByteArray), L[i]? = some x → cmpB (ahdS L lo i) x < 0 ∧ inB lo hi top x = true := by
  constructor
  · rintro ⟨h1, h2⟩ i x hx
    have h3 := h1 x (List.mem_of_getElem? hx)
    refine ⟨?_, h3.1⟩
    cases i with
    | zero =>
      show cmpB lo x < 0
      have h4 := (inB_iff.1 h3.1).1
      rcases cmpB_tri lo x with h5 | h5 | h5
      · exact h5
      · exact absurd h5.symm h3.2
      · have := cmpB_neg lo x
        omega
    | succ i =>
      obtain ⟨y, hy⟩ : ∃ y, L[i]? = some y := ⟨L[i]'(by have := (List.getElem?_eq_some_iff.1 hx).1; omega), List.getElem?_eq_getElem _⟩
      show cmpB ((L[i]?).getD lo) x < 0
      rw [hy]
      exact h2 i y x hy hx
  · intro h
    have hr : SRise L := fun i a b ha hb => by
      have this : cmpB ((L[i]?).getD lo) b < 0 := (h (i + 1) b hb).1
      rw [ha] at this
      exact this
    refine ⟨fun p hp => ?_, hr⟩
    obtain ⟨i, hi⟩ := List.mem_iff_getElem?.1 hp
    refine ⟨(h i p hi).2, ?_⟩
    obtain ⟨x0, h0⟩ : ∃ x0, L[0]? = some x0 := ⟨L[0]'(by have := (List.getElem?_eq_some_iff.1 hi).1; omega), List.getElem?_eq_getElem _⟩
    have h1 := (h 0 _ h0).1
    rcases Nat.eq_zero_or_pos i with rfl | h2
    · rw [hi] at h0
      cases h0
      exact (cmpB_ne h1).symm
    · exact (cmpB_ne (cmpB_trans h1 ((srise_iff.1 hr).at_ h0 hi h2))).symm
/-- where a key stands, or would stand -/
structure Lb (L : List ByteArray) (key : ByteArray) (p : Nat) : Prop where
  le : p ≤ L.length
  lo : ∀ (i : Nat) (m : ByteArray), i < p → L[i]? = some m → cmpB m key < 0
  hi : ∀ (i : Nat) (m : ByteArray), p ≤ i → L[i]? = some m → 0 ≤ cmpB m key
theorem Lb.way {L : List ByteArray} (hr : SRi L) {key : ByteArray} {p : Nat} (h : Lb L key p) (b : Bool) (hb : b = true ↔ L[p]? = some key) : wayS L key = if b = true then p + 1 else p := by
  have hle := h.le
  cases b with
  | true =>
    have hp := hb.1 rfl
    have hlt := (List.getElem?_eq_some_iff.1 hp).1
    rw [if_pos rfl]
    refine ((hr.way_is key (p + 1) (by omega)).1 ⟨fun q _ hq => ?_, fun q hq => ?_⟩).symm
    · rw [Nat.add_sub_cancel, hp] at hq
      cases hq
      rw [cmpB_self]
      omega
    · exact hr.at_ hp hq (by omega)
  | false =>
    rw [if_neg (by simp)]
    refine ((hr.way_is key p hle).1 ⟨fun q h0 hq => ?_, fun q hq => ?_⟩).symm
    · have := h.lo (p - 1) q (by omega) hq
      omega
    · have h1 := h.hi p q (Nat.le_refl _) hq
      have h2 := cmpB_neg key q
      rcases cmpB_tri key q with h3 | h3 | h3
      · exact h3
      · subst h3
        exact absurd (hb.2 hq) (by simp)
      · omega
theorem SRi.lower {L : List ByteArray} (h : SRi L) {key : ByteArray} {j : Nat} {y : ByteArray} (hy : L[j]? = some y) (hk : cmpB y key < 0) : ∀ (i : Nat) (m : ByteArray), i < j + 1 → L[i]? = some m → cmpB m key < 0 := fun i m hi hm => by
  rcases Nat.lt_or_ge i j with hij | hij
  · exact cmpB_trans (h.at_ hm hy hij) hk
  · obtain rfl : i = j := by omega
    rw [hy] at hm
    cases hm
    exact hk
theorem SRi.upper {L : List ByteArray} (h : SRi L) {key : ByteArray} {j : Nat} {y : ByteArray} (hy : L[j]? = some y) (hk : 0 ≤ cmpB y key) : ∀ (i : Nat) (m : ByteArray), j ≤ i → L[i]? = some m → 0 ≤ cmpB m key := fun i m hi hm => by
  rcases Nat.lt_or_ge j i with hij | hij
  · have h1 := h.at_ hy hm hij
    rcases Int.lt_or_le (cmpB m key) 0 with h2 | h2
    · have := cmpB_trans h1 h2
      omega
    · exact h2
  · obtain rfl : i = j := by omega
    rw [hy] at hm
    cases hm
    exact hk
set_option maxRecDepth 100000 in
set_option maxHeartbeats 4000000 in
theorem search_any {W : World} {A : Option Addr} {c : Nat} {L : List ByteArray} (h : SL W A L) (key : ByteArray) (hr : SRi L) (hl : L.length ≤ 1048576) : Calls Try.prog 21 #[.slice A L.length c, .string key, .func (.func 16) #[] #[]] W fun e w' => (∃ (p : Nat) (b : Bool), e = .returned (.tuple #[.int .i64 (p : Int), .bool b]) ∧ Lb L key p ∧ (b = true ↔ L[p]? = some key)) ∧ Below W.heap.size W w' := by
  obtain ⟨n, hn⟩ : ∃ n, n = L.length := ⟨_, rfl⟩
  have HN := Lib.hid hn
  have HH := Lib.hid h
  have HR := Lib.hid hr
  rw [← hn] at hl ⊢
  clear h hr hn
  go_enter Try.func21, Try.ntmps21
  go_wp2_with fail
  go_loopg [9, 10] n (fun gk s9 s10 wr => ∃ lo hi : Nat, lo ≤ hi ∧ hi ≤ n ∧ gk = hi - lo ∧ s9 = .int .i64 (lo : Int) ∧ s10 = .int .i64 (hi : Int) ∧ Hid (∀ (i : Nat) (m : ByteArray), i < lo → L[i]? = some m → cmpB m key < 0) ∧ Hid (∀ (i : Nat) (m : ByteArray), hi ≤ i → L[i]? = some m → 0 ≤ cmpB m key) ∧ Hid (Below W.heap.size W wr))
  case atStart => exact ⟨0, n, Nat.zero_le _, Nat.le_refl _, rfl, rfl, rfl, fun i m hi => by omega, fun i m hi hm => by
    have := (List.getElem?_eq_some_iff.1 hm).1
    rw [← HN.out] at this
    omega, Below.refl _ _⟩
  case round =>
    obtain ⟨lo, hi, hlh, hhn, rfl, rfl, rfl, HL, HU, HB⟩ := hrel
    by_cases hlt : lo < hi
    · obtain ⟨k, hk⟩ : ∃ k, k = (lo + hi) / 2 := ⟨_, rfl⟩
      have hk1 : lo ≤ k := by omega
      have hk2 : k < hi := by omega
      have hkn : k < n := by omega
      have hj : k < L.length := by rw [← HN.out]; exact hkn
      obtain ⟨x, hx⟩ : ∃ x, x = L[k] := ⟨_, rfl⟩
      have hx' := nat_lenS hj
      rw [← hx] at hx'
      obtain ⟨b, o, e, -, c0⟩ := RdK.str (HH.out.kept HB.out) hx'
      subst e
      have HX := Lib.hid hx'
      have cC := fun w => Lib.hid (Compare_any x key w)
      have hw1 : IntKind.i64.wrap ((lo : Int) + (hi : Int)) = (lo : Int) + (hi : Int) := by rw [IntKind.wrap_i64]; omega
      have hw2 : IntKind.i64.wrap ((k : Int) + 1) = ((k + 1 : Nat) : Int) := by rw [IntKind.wrap_i64]; omega
      have hq : ((lo : Int) + (hi : Int)) / 2 = (k : Int) := by omega
      have hsh : ∀ w, (binOp .shr 41 (.int .u64 ((lo : Int) + (hi : Int))) (.int .u64 1)).run Try.prog w = .ok (.int .u64 (k : Int)) w := fun w => by
        rw [← hq]
        simp [go_sem]
      have hw3 : IntKind.i64.wrap (k : Int) = (k : Int) := by rw [IntKind.wrap_i64]; omega
      have HQ := Lib.hid hq
      have HK := Lib.hid hk
      clear hx hx' hj hq hk hsh
      go_upto_region 5 with fail
      rw [HQ.out]
      by_cases hz : cmpB x key < 0
      · have HL2 : Hid (∀ (i : Nat) (m : ByteArray), i < k + 1 → L[i]? = some m → cmpB m key < 0) := HR.out.lower HX.out hz
        generalize cmpB x key = z at *
        go_wp2_with (go_at_call 16; refine (cC _).out.mono ?_; rintro e w' ⟨rfl, rfl⟩)
        have HB2 := Lib.hid HB.out
        go_roundg (hi - (k + 1))
        case measure => omega
        case rel => exact ⟨k + 1, hi, by omega, hhn, rfl, by go_num, rfl, HL2, HU, HB2⟩
      · have HU2 : Hid (∀ (i : Nat) (m : ByteArray), k ≤ i → L[i]? = some m → 0 ≤ cmpB m key) := HR.out.upper HX.out (by omega)
        have hd : decide (cmpB x key < 0) = false := by simpa using hz
        generalize cmpB x key = z at *
        go_wp2_with (go_at_call 16; refine (cC _).out.mono ?_; rintro e w' ⟨rfl, rfl⟩)
        have HB2 := Lib.hid HB.out
        go_roundg (k - lo)
        case measure => omega
        case rel => exact ⟨lo, k, hk1, by omega, rfl, rfl, rfl, HL, HU2, HB2⟩
    · obtain rfl : lo = hi := by omega
      have HP : Hid (Lb L key lo) := ⟨by rw [← HN.out]; exact hhn, HL.out, HU.out⟩
      by_cases hnn : lo < n
      · have hj : lo < L.length := by rw [← HN.out]; exact hnn
        obtain ⟨x, hx⟩ : ∃ x, x = L[lo] := ⟨_, rfl⟩
        have hx' := nat_lenS hj
        rw [← hx] at hx'
        obtain ⟨b, o, e, -, c0⟩ := RdK.str (HH.out.kept HB.out) hx'
        subst e
        have HX := Lib.hid hx'
        have cC := fun w => Lib.hid (Compare_any x key w)
        clear hx hx' hj
        by_cases hz : cmpB x key = 0
        · have HF : Hid (L[lo]? = some key) := Lib.hid (by rw [HX.out, cmpB_zero hz])
          generalize cmpB x key = z at *
          go_wp2_with (go_at_call 16; refine (cC _).out.mono ?_; rintro e w' ⟨rfl, rfl⟩)
          have HB2 := Lib.hid HB.out
          exact bodyPost_ret (v := .tuple #[.int .i64 (lo : Int), .bool true]) (by simp [results, Try.results21, go_sem]) rfl ⟨⟨lo, true, rfl, HP.out, by simpa using HF.out⟩, HB2.out⟩
        · have HF : Hid (¬ L[lo]? = some key) := fun h1 => hz (by
            rw [HX.out] at h1
            cases h1
            exact cmpB_self key)
          have hd : decide (cmpB x key = 0) = false := by simpa using hz
          generalize cmpB x key = z at *
          go_wp2_with (go_at_call 16; refine (cC _).out.mono ?_; rintro e w' ⟨rfl, rfl⟩)
          have HB2 := Lib.hid HB.out
          exact bodyPost_ret (v := .tuple #[.int .i64 (lo : Int), .bool false]) (by simp [results, Try.results21, go_sem, hz]) rfl ⟨⟨lo, false, rfl, HP.out, by simpa using HF.out⟩, HB2.out⟩
      · have HF : Hid (¬ L[lo]? = some key) := fun h1 => hnn (by
          have := (List.getElem?_eq_some_iff.1 h1).1
          rw [HN.out]
          exact this)
        have hge : n ≤ lo := by omega
        have hd : decide ((lo : Int) < (n : Int)) = false := by simp; omega
        clear hnn hlt
        go_wp2_with fail
        exact bodyPost_ret (v := .tuple #[.int .i64 (lo : Int), .bool false]) (by simp [results, Try.results21, go_sem]) rfl ⟨⟨lo, false, rfl, HP.out, by simpa using HF.out⟩, HB.out⟩
set_option maxRecDepth 100000 in
set_option maxHeartbeats 2000000 in
theorem Way_c {W : World} {A : Option Addr} {c : Nat} {L : List ByteArray} (h : SC W A c L) (key : ByteArray) (hr : SRi L) (hl : L.length ≤ 1000) : Calls Try.prog 12 #[.slice A L.length c, .string key] W fun e w' => e = .returned (.int .i64 (wayS L key : Int)) ∧ Below W.heap.size W w' := by
  have cS := Lib.hid (search_any (c := c) h.1 key hr (by omega))
  have HWY : Hid (∀ (p : Nat) (b : Bool), Lb L key p → (b = true ↔ L[p]? = some key) → wayS L key = if b = true then p + 1 else p) := fun p b hp hb => hp.way hr b hb
  have HLE : Hid (∀ p : Nat, Lb L key p → p ≤ 1000) := fun p hp => Nat.le_trans hp.le hl
  clear h hr hl
  generalize wayS L key = v at *
  generalize L.length = n at *
  go_enter Try.func12, Try.ntmps12
  go_upto_region 2 with (go_at_call 21; refine cS.out.mono ?_; rintro e w' ⟨⟨p, b, rfl, h1, h2⟩, hb⟩)
  have hv := HWY.out p b h1 h2
  have hp := HLE.out p h1
  have HB := Lib.hid hb
  clear cS HWY HLE h1 h2 hb
  cases b with
  | true =>
    rw [if_pos rfl] at hv
    subst hv
    have hw : IntKind.i64.wrap ((p : Int) + 1) = ((p + 1 : Nat) : Int) := by rw [IntKind.wrap_i64]; omega
    go_wp2_with fail
    go_ret
    exact ⟨rfl, HB.out⟩
  | false =>
    rw [if_neg (by simp)] at hv
    subst hv
    go_wp2_with fail
    go_ret
    exact ⟨rfl, HB.out⟩
set_option maxRecDepth 100000 in
set_option maxHeartbeats 4000000 in
theorem Right_c {W : World} {A : Option Addr} {c : Nat} {L : List ByteArray} (h : SC W A c L) (lo hi : ByteArray) (top : Bool) (hl : L.length ≤ 1000) : Calls Try.prog 7 #[.slice A L.length c, .agg #[.string lo, .string hi, .bool top]] W fun e w' => (∃ v : Bool, e = .returned (.bool v) ∧ (v = true ↔ RightS L lo hi top)) ∧ Below W.heap.size W w' := by
  have HH : Hid (SL W A L) := h.1
  obtain ⟨P, hP⟩ : ∃ P : Prop, P = RightS L lo hi top := ⟨_, rfl⟩
  have HP : Hid (P ↔ ∀ (i : Nat) (x : ByteArray), L[i]? = some x → cmpB (ahdS L lo i) x < 0 ∧ inB lo hi top x = true) := by rw [hP]; exact right_iff
  rw [← hP]
  generalize hn : L.length = n at *
  have HN := Lib.hid hn
  clear h hn hP
  go_enter Try.func7, Try.ntmps7
  go_upto_region 1 with fail
  have hx := heap_alloc_new W (.cells #[.string lo, .string hi, .bool top] 24)
  have hb0 : Below W.heap.size W (W.alloc (.cells #[.string lo, .string hi, .bool top] 24)) := (Below.refl _ _).alloc (Nat.le_refl _) _
  generalize W.alloc (.cells #[.string lo, .string hi, .bool top] 24) = w1 at *
  obtain ⟨g, hg⟩ : ∃ g, g = W.heap.size := ⟨_, rfl⟩
  rw [← hg] at hx ⊢
  obtain ⟨d0, d1, d2⟩ := box3 hx
  have HX := Lib.hid hx
  have HB := Lib.hid hb0
  clear hx hb0 hg
  go_upto_region 2 with fail
  clear d0 d1 d2
  go_wp2_with fail
  go_loopg [5, 12] n (fun gk av iv wr => ∃ k : Nat, k ≤ n ∧ gk = n - k ∧ av = .string (ahdS L lo k) ∧ iv = .int .i64 (k : Int) ∧ Hid (∀ (i : Nat) (x : ByteArray), i < k → L[i]? = some x → cmpB (ahdS L lo i) x < 0 ∧ inB lo hi top x = true) ∧ Hid (Below W.heap.size W wr ∧ wr.heap[g]? = some (.cells #[.string lo, .string hi, .bool top] 24 (0, 0))))
  case atStart => exact ⟨0, Nat.zero_le _, rfl, rfl, rfl, fun i x hi => by omega, HB.out, HX.out⟩
  case round =>
    clear HB HX
    obtain ⟨k, hkn, rfl, rfl, rfl, HE, HB⟩ := hrel
    by_cases hlt : k < n
    · have hj : k < L.length := by rw [HN.out]; exact hlt
      obtain ⟨x, hx⟩ : ∃ x, x = L[k] := ⟨_, rfl⟩
      have hx' := nat_lenS hj
      rw [← hx] at hx'
      obtain ⟨b, o, e, -, c0⟩ := RdK.str (HH.out.kept HB.out.1) hx'
      subst e
      obtain ⟨d0, d1, d2⟩ := box3 HB.out.2
      have HXX := Lib.hid hx'
      have HA2 : Hid (ahdS L lo (k + 1) = x) := by
        show (L[k]?).getD lo = x
        rw [hx']
        rfl
      have hw : IntKind.i64.wrap ((k : Int) + 1) = ((k + 1 : Nat) : Int) := by rw [IntKind.wrap_i64]; omega
      obtain ⟨a, ha⟩ : ∃ a, a = ahdS L lo k := ⟨_, rfl⟩
      rw [← ha]
      have HAA := Lib.hid ha
      have cC := fun w => Lib.hid (Compare_any a x w)
      have cI := fun w => Lib.hid (In_any lo hi top x w)
      clear hx hx' hj ha
      by_cases hz : cmpB a x < 0
      · have HE2 : Hid (inB lo hi top x = true → ∀ (i : Nat) (y : ByteArray), i < k + 1 → L[i]? = some y → cmpB (ahdS L lo i) y < 0 ∧ inB lo hi top y = true) := fun hin i y hi hy => by
          by_cases e : i = k
          · subst e
            rw [HXX.out] at hy
            cases hy
            exact ⟨by rw [← HAA.out]; exact hz, hin⟩
          · exact HE.out i y (by omega) hy
        have hd : decide (0 ≤ cmpB a x) = false := by simpa using hz
        clear hz
        generalize cmpB a x = z at *
        obtain ⟨t, ht⟩ : ∃ t, t = inB lo hi top x := ⟨_, rfl⟩
        rw [← ht] at cI
        have HT := Lib.hid ht
        clear ht
        cases t with
        | true =>
          go_wp2_with first | (go_at_call 16; refine (cC _).out.mono ?_; rintro e w' ⟨rfl, rfl⟩) | (go_at_call 17; refine (cI _).out.mono ?_; rintro e w' ⟨rfl, hb⟩)
          have HB2 : Hid (Below W.heap.size W w' ∧ w'.heap[g]? = some (.cells #[.string lo, .string hi, .bool top] 24 (0, 0))) := ⟨HB.out.1.trans (hb.mono HB.out.1.size), kept3 HB.out.2 hb⟩
          go_roundg (n - (k + 1))
          case measure => omega
          case rel => exact ⟨k + 1, hlt, rfl, by rw [HA2.out], by go_num, HE2.out HT.out.symm, HB2⟩
        | false =>
          have HF : Hid (¬ P) := fun hp => by
            have := (HP.out.1 hp k x HXX.out).2
            rw [← HT.out] at this
            cases this
          go_wp2_with first | (go_at_call 16; refine (cC _).out.mono ?_; rintro e w' ⟨rfl, rfl⟩) | (go_at_call 17; refine (cI _).out.mono ?_; rintro e w' ⟨rfl, hb⟩)
          go_ret
          exact ⟨⟨false, rfl, by simpa using HF.out⟩, HB.out.1.trans (hb.mono HB.out.1.size)⟩
      · have HF : Hid (¬ P) := fun hp => by
          have := (HP.out.1 hp k x HXX.out).1
          rw [← HAA.out] at this
          exact hz this
        have hd : 0 ≤ cmpB a x := by omega
        clear hz
        generalize cmpB a x = z at *
        go_wp2_with (go_at_call 16; refine (cC _).out.mono ?_; rintro e w' ⟨rfl, rfl⟩)
        go_ret
        exact ⟨⟨false, rfl, by simpa using HF.out⟩, HB.out.1⟩
    · have HT : Hid P := HP.out.2 fun i x hx => HE.out i x (by
        have := (List.getElem?_eq_some_iff.1 hx).1
        rw [HN.out] at this
        omega) hx
      obtain rfl : k = n := by omega
      clear hlt
      go_wp2_with fail
      go_ret
      exact ⟨⟨true, rfl, by simpa using HT.out⟩, HB.out.1⟩
end Fa
end Go.Proofs.Ytokmnjbcnapmcaa
