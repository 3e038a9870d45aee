/-
  The code's fan: Way.
-/
import Derived.Test.YtlcdjbleeanpbaaFanP
import Derived.Test.YtlcdjbleeanpbaaCmpC
import Derived.Test.YtlcdjbleeanpbaaDrift
namespace Go.Proofs.Ytlcdjbleeanpbaa
open Go.RowKit
namespace Fa
open Mem Lx Bu
/-- where a key stands, or would stand -/
structure Lb (L : List ByteArray) (key : ByteArray) (p : Nat) : Prop where
  le : p ≤ L.length
  lo : ∀ (i : Nat) (m : ByteArray), i < p → L[i]? = some m → cmpB m key < 0
  hi : ∀ (i : Nat) (m : ByteArray), p ≤ i → L[i]? = some m → 0 ≤ cmpB m key
theorem Lb.way {L : List ByteArray} (hr : SRi L) {key : ByteArray} {p : Nat} (h : Lb L key p) (b : Bool) (hb : b = true ↔ L[p]? = some key) : wayS L key = if b = true then p + 1 else p := by
  have hle := h.le
  cases b with
  | true =>
    have hp := hb.1 rfl
    have hlt := (List.getElem?_eq_some_iff.1 hp).1
    rw [if_pos rfl]
    refine ((hr.way_is key (p + 1) (by omega)).1 ⟨fun q _ hq => ?_, fun q hq => ?_⟩).symm
    · rw [Nat.add_sub_cancel, hp] at hq
      cases hq
      rw [cmpB_self]
      omega
    · exact hr.at_ hp hq (by omega)
  | false =>
    rw [if_neg (by simp)]
    refine ((hr.way_is key p hle).1 ⟨fun q h0 hq => ?_, fun q hq => ?_⟩).symm
    · have := h.lo (p - 1) q (by omega) hq
      omega
    · have h1 := h.hi p q (Nat.le_refl _) hq
      have h2 := cmpB_neg key q
      rcases cmpB_tri key q with h3 | h3 | h3
      · exact h3
      · subst h3
        exact absurd (hb.2 hq) (by simp)
      · omega
theorem SRi.lower {L : List ByteArray} (h : SRi L) {key : ByteArray} {j : Nat} {y : ByteArray} (hy : L[j]? = some y) (hk : cmpB y key < 0) : ∀ (i : Nat) (m : ByteArray), i < j + 1 → L[i]? = some m → cmpB m key < 0 := fun i m hi hm => by
  rcases Nat.lt_or_ge i j with hij | hij
  · exact cmpB_trans (h.at_ hm hy hij) hk
  · obtain rfl : i = j := by omega
    rw [hy] at hm
    cases hm
    exact hk
theorem SRi.upper {L : List ByteArray} (h : SRi L) {key : ByteArray} {j : Nat} {y : ByteArray} (hy : L[j]? = some y) (hk : 0 ≤ cmpB y key) : ∀ (i : Nat) (m : ByteArray), j ≤ i → L[i]? = some m → 0 ≤ cmpB m key := fun i m hi hm => by
  rcases Nat.lt_or_ge j i with hij | hij
  · have h1 := h.at_ hy hm hij
    rcases Int.lt_or_le (cmpB m key) 0 with h2 | h2
    · have := cmpB_trans h1 h2
      omega
    · exact h2
  · obtain rfl : i = j := by omega
    rw [hy] at hm
    cases hm
    exact hk
set_option maxRecDepth 100000 in
set_option maxHeartbeats 4000000 in
set_option maxRecDepth 100000 in
theorem search_any {W : World} {A : Option Addr} {c : Nat} {L : List ByteArray} (h : SL W A L) (key : ByteArray) (hr : SRi L) (hl : L.length ≤ 1048576) : Calls Try.prog 62 #[.slice A L.length c, .string key, .func (.func 63) #[] #[]] W fun e w' => (∃ (p : Nat) (b : Bool), e = .returned (.tuple #[.int .i64 (p : Int), .bool b]) ∧ Lb L key p ∧ (b = true ↔ L[p]? = some key)) ∧ Below W.heap.size W w' := by
  obtain ⟨n, hn⟩ : ∃ n, n = L.length := ⟨_, rfl⟩
  have HN := Lib.hid hn
  have HH := Lib.hid h
  have HR := Lib.hid hr
  rw [← hn] at hl ⊢
  clear h hr hn
  go_enter Try.func62, Try.ntmps62
  go_wp2_with fail
  go_loopg [9, 10] n (fun gk s9 s10 wr => ∃ lo hi : Nat, lo ≤ hi ∧ hi ≤ n ∧ gk = hi - lo ∧ s9 = .int .i64 (lo : Int) ∧ s10 = .int .i64 (hi : Int) ∧ Hid (∀ (i : Nat) (m : ByteArray), i < lo → L[i]? = some m → cmpB m key < 0) ∧ Hid (∀ (i : Nat) (m : ByteArray), hi ≤ i → L[i]? = some m → 0 ≤ cmpB m key) ∧ Hid (Below W.heap.size W wr))
  case atStart => exact ⟨0, n, Nat.zero_le _, Nat.le_refl _, rfl, rfl, rfl, fun i m hi => by omega, fun i m hi hm => by
    have := (List.getElem?_eq_some_iff.1 hm).1
    rw [← HN.out] at this
    omega, Below.refl _ _⟩
  case round =>
    obtain ⟨lo, hi, hlh, hhn, rfl, rfl, rfl, HL, HU, HB⟩ := hrel
    by_cases hlt : lo < hi
    · obtain ⟨k, hk⟩ : ∃ k, k = (lo + hi) / 2 := ⟨_, rfl⟩
      have hk1 : lo ≤ k := by omega
      have hk2 : k < hi := by omega
      have hkn : k < n := by omega
      have hj : k < L.length := by rw [← HN.out]; exact hkn
      obtain ⟨x, hx⟩ : ∃ x, x = L[k] := ⟨_, rfl⟩
      have hx' := nat_lenS hj
      rw [← hx] at hx'
      obtain ⟨b, o, e, -, c0⟩ := RdK.str (HH.out.kept HB.out) hx'
      subst e
      have HX := Lib.hid hx'
      have cC := fun w => Lib.hid (Compare_any x key w)
      have hw1 : IntKind.i64.wrap ((lo : Int) + (hi : Int)) = (lo : Int) + (hi : Int) := by rw [IntKind.wrap_i64]; omega
      have hw2 : IntKind.i64.wrap ((k : Int) + 1) = ((k + 1 : Nat) : Int) := by rw [IntKind.wrap_i64]; omega
      have hq : ((lo : Int) + (hi : Int)) / 2 = (k : Int) := by omega
      have hsh : ∀ w, (binOp .shr 92 (.int .u64 ((lo : Int) + (hi : Int))) (.int .u64 1)).run Try.prog w = .ok (.int .u64 (k : Int)) w := fun w => by
        rw [← hq]
        simp [go_sem]
      have hw3 : IntKind.i64.wrap (k : Int) = (k : Int) := by rw [IntKind.wrap_i64]; omega
      have HQ := Lib.hid hq
      have HK := Lib.hid hk
      clear hx hx' hj hq hk hsh
      go_upto_region 5 with fail
      rw [HQ.out]
      by_cases hz : cmpB x key < 0
      · have HL2 : Hid (∀ (i : Nat) (m : ByteArray), i < k + 1 → L[i]? = some m → cmpB m key < 0) := HR.out.lower HX.out hz
        generalize cmpB x key = z at *
        go_wp2_with (go_at_call 63; refine (cC _).out.mono ?_; rintro e w' ⟨rfl, rfl⟩)
        have HB2 := Lib.hid HB.out
        go_roundg (hi - (k + 1))
        case measure => omega
        case rel => exact ⟨k + 1, hi, by omega, hhn, rfl, by go_num, rfl, HL2, HU, HB2⟩
      · have HU2 : Hid (∀ (i : Nat) (m : ByteArray), k ≤ i → L[i]? = some m → 0 ≤ cmpB m key) := HR.out.upper HX.out (by omega)
        have hd : decide (cmpB x key < 0) = false := by simpa using hz
        generalize cmpB x key = z at *
        go_wp2_with (go_at_call 63; refine (cC _).out.mono ?_; rintro e w' ⟨rfl, rfl⟩)
        have HB2 := Lib.hid HB.out
        go_roundg (k - lo)
        case measure => omega
        case rel => exact ⟨lo, k, hk1, by omega, rfl, rfl, rfl, HL, HU2, HB2⟩
    · obtain rfl : lo = hi := by omega
      have HP : Hid (Lb L key lo) := ⟨by rw [← HN.out]; exact hhn, HL.out, HU.out⟩
      by_cases hnn : lo < n
      · have hj : lo < L.length := by rw [← HN.out]; exact hnn
        obtain ⟨x, hx⟩ : ∃ x, x = L[lo] := ⟨_, rfl⟩
        have hx' := nat_lenS hj
        rw [← hx] at hx'
        obtain ⟨b, o, e, -, c0⟩ := RdK.str (HH.out.kept HB.out) hx'
        subst e
        have HX := Lib.hid hx'
        have cC := fun w => Lib.hid (Compare_any x key w)
        clear hx hx' hj
        by_cases hz : cmpB x key = 0
        · have HF : Hid (L[lo]? = some key) := Lib.hid (by rw [HX.out, cmpB_zero hz])
          generalize cmpB x key = z at *
          go_wp2_with (go_at_call 63; refine (cC _).out.mono ?_; rintro e w' ⟨rfl, rfl⟩)
          have HB2 := Lib.hid HB.out
          exact bodyPost_ret (v := .tuple #[.int .i64 (lo : Int), .bool true]) (by simp [results, Try.results62, go_sem]) rfl ⟨⟨lo, true, rfl, HP.out, by simpa using HF.out⟩, HB2.out⟩
        · have HF : Hid (¬ L[lo]? = some key) := fun h1 => hz (by
            rw [HX.out] at h1
            cases h1
            exact cmpB_self key)
          have hd : decide (cmpB x key = 0) = false := by simpa using hz
          generalize cmpB x key = z at *
          go_wp2_with (go_at_call 63; refine (cC _).out.mono ?_; rintro e w' ⟨rfl, rfl⟩)
          have HB2 := Lib.hid HB.out
          exact bodyPost_ret (v := .tuple #[.int .i64 (lo : Int), .bool false]) (by simp [results, Try.results62, go_sem, hz]) rfl ⟨⟨lo, false, rfl, HP.out, by simpa using HF.out⟩, HB2.out⟩
      · have HF : Hid (¬ L[lo]? = some key) := fun h1 => hnn (by
          have := (List.getElem?_eq_some_iff.1 h1).1
          rw [HN.out]
          exact this)
        have hge : n ≤ lo := by omega
        have hd : decide ((lo : Int) < (n : Int)) = false := by simp; omega
        clear hnn hlt
        go_wp2_with fail
        exact bodyPost_ret (v := .tuple #[.int .i64 (lo : Int), .bool false]) (by simp [results, Try.results62, go_sem]) rfl ⟨⟨lo, false, rfl, HP.out, by simpa using HF.out⟩, HB.out⟩
set_option maxRecDepth 100000 in
set_option maxHeartbeats 2000000 in
set_option maxRecDepth 100000 in
theorem Way_c {W : World} {A : Option Addr} {c : Nat} {L : List ByteArray} (h : SC W A c L) (key : ByteArray) (hr : SRi L) (hl : L.length ≤ 1000) : Calls Try.prog 44 #[.slice A L.length c, .string key] W fun e w' => e = .returned (.int .i64 (wayS L key : Int)) ∧ Below W.heap.size W w' := by
  have cS := Lib.hid (search_any (c := c) h.1 key hr (by omega))
  have HWY : Hid (∀ (p : Nat) (b : Bool), Lb L key p → (b = true ↔ L[p]? = some key) → wayS L key = if b = true then p + 1 else p) := fun p b hp hb => hp.way hr b hb
  have HLE : Hid (∀ p : Nat, Lb L key p → p ≤ 1000) := fun p hp => Nat.le_trans hp.le hl
  clear h hr hl
  generalize wayS L key = v at *
  generalize L.length = n at *
  go_enter Try.func44, Try.ntmps44
  go_upto_region 2 with (go_at_call 62; refine cS.out.mono ?_; rintro e w' ⟨⟨p, b, rfl, h1, h2⟩, hb⟩)
  have hv := HWY.out p b h1 h2
  have hp := HLE.out p h1
  have HB := Lib.hid hb
  clear cS HWY HLE h1 h2 hb
  cases b with
  | true =>
    rw [if_pos rfl] at hv
    subst hv
    have hw : IntKind.i64.wrap ((p : Int) + 1) = ((p + 1 : Nat) : Int) := by rw [IntKind.wrap_i64]; omega
    go_wp2_with fail
    go_ret
    exact ⟨rfl, HB.out⟩
  | false =>
    rw [if_neg (by simp)] at hv
    subst hv
    go_wp2_with fail
    go_ret
    exact ⟨rfl, HB.out⟩
theorem Way_any {W : World} {A : Option Addr} {c : Nat} {L : List ByteArray} (h : SC W A c L) (key : ByteArray) (_ : key.size ≤ 1000) (_ : ∀ m, m ∈ L → m.size ≤ 1000) (hr : SRi L) (hl : L.length ≤ 1000) : Calls Try.prog 44 #[.slice A L.length c, .string key] W fun e w' => e = .returned (.int .i64 (wayS L key : Int)) ∧ Below W.heap.size W w' := Way_c h key hr hl
end Fa
end Go.Proofs.Ytlcdjbleeanpbaa
