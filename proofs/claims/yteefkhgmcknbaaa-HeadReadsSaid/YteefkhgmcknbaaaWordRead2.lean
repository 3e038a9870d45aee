/-
  Contracts of layer word: the reader's Num, Text, Zeros, Left, Err, End, Open.
-/
import Derived.Test.YteefkhgmcknbaaaWordRead
import Derived.Laws.BitsAllLaws
import Derived.Laws.BitsLemmas
namespace Go.Proofs.Yteefkhgmcknbaaa
open Go.RowKit
namespace Wd
open Mem

theorem val_take_lt (t : List UInt8) (k : Nat) (hk : k < t.length) (h8 : t.length ≤ 8) : val (t.take k) < 72057594037927936 := by
  have h := val_lt (t.take k)
  have h1 : (t.take k).length ≤ 7 := by simp; omega
  have h2 : 256 ^ (t.take k).length ≤ 256 ^ 7 := Nat.pow_le_pow_right (by decide) h1
  omega

theorem or_byte (v y : Nat) (hv : v < 72057594037927936) (hy : y < 256) : bits .or .u64 ((v : Int) * 256) (y : Int) = ((256 * v + y : Nat) : Int) := by
  have e : ((v : Int) * 256) = ((256 * v : Nat) : Int) := by omega
  rw [e, u64_or_nat _ _ (by omega) (by omega)]
  have := Nat.two_pow_add_eq_or_of_lt (i := 8) (b := y) (by omega) v
  rw [show 256 * v = 2 ^ 8 * v by omega, this]

set_option maxHeartbeats 1000000 in
theorem Num_any (g : Nat) (s : St) (n : Int) (w : World) (h : Rd 73 w g s) :
    Calls Try.prog 26 #[.pointer (some ⟨g, 0, none⟩), .int .i64 n] w fun e w' => e = .returned (.int .u64 ((numS s n).2 : Int)) ∧ Rd 73 w' g (numS s n).1 ∧ Only g w w' := by
  have cW := fun w => Lib.hid (isWidth_any n w)
  cases hw : isW n with
  | false =>
    rw [hw] at cW
    have HS := Lib.hid (show numS s n = (spoilS s 2, 0) by simp [numS, hw])
    have cS := Lib.hid (spoil_any g s 2 w h)
    clear h hw
    go_enter Try.func26, Try.ntmps26
    go_wp2_with (first
      | (go_at_call 29; refine (cW _).out.mono ?_; rintro e w' ⟨rfl, rfl⟩)
      | (go_at_call 41; refine cS.out.mono ?_; rintro e w1 ⟨rfl, hr, ho⟩; have HR1 := Lib.hid hr; have HO1 := Lib.hid ho; clear hr ho))
    go_ret
    rw [HS.out]
    exact ⟨rfl, HR1.out, HO1.out⟩
  | true =>
    rw [hw] at cW
    have HS := Lib.hid (show numS s n = ((takeS s n).1, val (takeS s n).2) by simp [numS, hw])
    have hn : n ≤ 8 := by have := isW_cases hw; omega
    have hlen := take_len s n
    have h8 : (takeS s n).2.length ≤ 8 := by split at hlen <;> omega
    have cT := Lib.hid (take_any g s n w h)
    obtain ⟨t, ht⟩ : ∃ t, t = (takeS s n).2 := ⟨_, rfl⟩
    rw [← ht] at h8 cT HS
    obtain ⟨m, hm⟩ : ∃ m, m = t.length := ⟨_, rfl⟩
    rw [← hm] at h8
    have HT := Lib.hid ht
    have HM := Lib.hid hm
    clear h hw hlen hn ht hm
    go_enter Try.func26, Try.ntmps26
    go_wp2_with (first
      | (go_at_call 29; refine (cW _).out.mono ?_; rintro e w' ⟨rfl, rfl⟩)
      | (go_at_call 42; refine cT.out.mono ?_; rintro e w1 ⟨⟨A, c, he, hO, hc⟩, hr, ho⟩; rw [← HM.out] at he hc; subst he; have HO := Lib.hid hO; have HR1 := Lib.hid hr; have HO1 := Lib.hid ho; clear hO hr ho hc))
    go_loop [5, 17] (fun x i => ∃ (k v : Nat), k ≤ m ∧ i = .int .i64 k ∧ x = .int .u64 (v : Int) ∧ Hid (v = val (t.take k))) (fun _ i => m - (intOf i).toNat)
    case atStart => exact ⟨0, 0, Nat.zero_le _, rfl, rfl, rfl⟩
    case round =>
      obtain ⟨k, v, hk, rfl, rfl, HV⟩ := hrel
      by_cases hlt : k < m
      · have hkl : k < t.length := by rw [← HM.out]; exact hlt
        obtain ⟨b, o, rfl, hc⟩ := HO.out.1.at_ hkl
        have hv : v < 72057594037927936 := by rw [HV.out]; exact val_take_lt t k hkl (by rw [← HM.out]; exact h8)
        have hy : t[k].toNat < 256 := t[k].toNat_lt
        have HN : Hid (256 * v + t[k].toNat = val (t.take (k + 1))) := by
          unfold Hid
          rw [List.take_succ_eq_append_getElem hkl, val_snoc, HV.out]
        generalize t[k].toNat = y at hc hy HN
        have hor := or_byte v y hv hy
        clear hkl
        go_wp2
        exact ⟨⟨k + 1, 256 * v + y, hlt, by go_num, rfl, HN⟩, by simp [intOf]; omega⟩
      · obtain rfl : k = m := by omega
        go_wp2
        go_ret
        rw [HS.out]
        refine ⟨?_, HR1.out, HO1.out⟩
        have := HV.out
        rw [List.take_of_length_le (by rw [HM.out]; exact Nat.le_refl _)] at this
        rw [this]; rfl

theorem spoil_none (x : Int) (w : World) :
    Calls Try.prog 41 #[.pointer none, .int .i64 x] w fun e w' => e = .returned (.tuple #[]) ∧ w = w' := by
  go_enter Try.func41, Try.ntmps41
  go_wp2
  exact bodyPost_ret (results_none rfl _ _ _) rfl ⟨rfl, rfl⟩
theorem take_nil (n : Int) (w : World) :
    Calls Try.prog 42 #[.pointer none, .int .i64 n] w fun e w' => e = .returned (.slice none 0 0) ∧ w = w' := by
  go_enter Try.func42, Try.ntmps42
  go_wp2
  go_ret
  exact ⟨rfl, rfl⟩

set_option maxHeartbeats 400000 in
theorem Zeros_any (g : Nat) (s : St) (n : Int) (w : World) (h : Rd 73 w g s) :
    Calls Try.prog 25 #[.pointer (some ⟨g, 0, none⟩), .int .i64 n] w fun e w' => e = .returned (.tuple #[]) ∧ Rd 73 w' g (zerosS s n) ∧ Only g w w' := by
  have HL := Lib.hid (take_bound h n)
  have cT := Lib.hid (take_any g s n w h)
  have cZ := fun p c l w hb hl => Lib.hid (allZero_any p c l w hb hl)
  have cS := fun s x w hw => Lib.hid (spoil_any g s x w hw)
  clear h
  cases hz : zeroB (takeS s n).2 with
  | true =>
    have HS := Lib.hid (show zerosS s n = (takeS s n).1 by simp [zerosS, hz])
    have HZ := Lib.hid hz
    clear hz
    go_enter Try.func25, Try.ntmps25
    go_wp2_with (first
      | (go_at_call 42; refine cT.out.mono ?_; rintro e w1 ⟨⟨A, c, rfl, hO, hc⟩, hr, ho⟩; have HO := Lib.hid hO; have HR1 := Lib.hid hr; have HO1 := Lib.hid ho; clear hO hr ho)
      | (go_at_call 43; refine (cZ _ _ _ _ HO.out.1 (by have := HL.out; omega)).out.mono ?_; rw [HZ.out]; rintro e w2 ⟨rfl, rfl⟩))
    go_end0
    exact ⟨rfl, by rw [HS.out]; exact HR1.out, HO1.out⟩
  | false =>
    have HS := Lib.hid (show zerosS s n = spoilS (takeS s n).1 3 by simp [zerosS, hz])
    have HZ := Lib.hid hz
    clear hz
    go_enter Try.func25, Try.ntmps25
    go_wp2_with (first
      | (go_at_call 42; refine cT.out.mono ?_; rintro e w1 ⟨⟨A, c, rfl, hO, hc⟩, hr, ho⟩; have HO := Lib.hid hO; have HR1 := Lib.hid hr; have HO1 := Lib.hid ho; clear hO hr ho)
      | (go_at_call 43; refine (cZ _ _ _ _ HO.out.1 (by have := HL.out; omega)).out.mono ?_; rw [HZ.out]; rintro e w2 ⟨rfl, rfl⟩)
      | (go_at_call 41; refine (cS _ _ _ HR1.out).out.mono ?_; rintro e w3 ⟨rfl, hr, ho⟩; have HR3 := Lib.hid hr; have HO3 := Lib.hid ho; clear hr ho))
    go_end0
    exact ⟨rfl, by rw [HS.out]; exact HR3.out, HO1.out.trans HO3.out⟩

theorem allZero_at (p : Option Addr) (c : Nat) (l : List UInt8) (n : Nat) (hn : l.length = n) (w : World) (h : BL w p l) (hl : n ≤ 140737488355328) :
    Calls Try.prog 43 #[.slice p n c] w fun e w' => e = .returned (.bool (zeroB l)) ∧ w = w' := by subst hn; exact allZero_any p c l w h hl

theorem text_arg (s : St) {n m : Int} (h : n < 0 ∨ m < n) : textS s n m = (spoilS s 2, []) := if_pos h
theorem text_short (s : St) {n m : Int} (h : ¬ (n < 0 ∨ m < n)) (h1 : ((takeS s m).2.length : Int) < m) : textS s n m = ((takeS s m).1, []) := by unfold textS; rw [if_neg h, if_pos h1]
theorem text_zero (s : St) {n m : Int} (h : ¬ (n < 0 ∨ m < n)) (h1 : ¬ ((takeS s m).2.length : Int) < m) (h2 : zeroB ((takeS s m).2.drop n.toNat) = true) : textS s n m = ((takeS s m).1, (takeS s m).2.take n.toNat) := by
  unfold textS; rw [if_neg h, if_neg h1, if_pos h2]
theorem text_form (s : St) {n m : Int} (h : ¬ (n < 0 ∨ m < n)) (h1 : ¬ ((takeS s m).2.length : Int) < m) (h2 : zeroB ((takeS s m).2.drop n.toNat) = false) : textS s n m = (spoilS (takeS s m).1 3, []) := by
  unfold textS; rw [if_neg h, if_neg h1, if_neg (by rw [h2]; exact Bool.false_ne_true)]

set_option maxHeartbeats 1000000 in
theorem Text_any (g : Nat) (s : St) (n m : Int) (w : World) (h : Rd 73 w g s) :
    Calls Try.prog 22 #[.pointer (some ⟨g, 0, none⟩), .int .i64 n, .int .i64 m] w fun e w' => e = .returned (.string (strOf (textS s n m).2)) ∧ Rd 73 w' g (textS s n m).1 ∧ Only g w w' := by
  have hL := take_bound h m
  have cT := Lib.hid (take_any g s m w h)
  have cS0 := Lib.hid (spoil_any g s 2 w h)
  have cS := fun s x w hw => Lib.hid (spoil_any g s x w hw)
  have cZ := fun p c l n hn w hb hl => Lib.hid (allZero_at p c l n hn w hb hl)
  clear h
  by_cases h0 : n < 0 ∨ m < n
  · have HS := Lib.hid (text_arg s h0)
    clear hL
    rcases Int.lt_or_le n 0 with h1 | h1
    · clear h0
      go_enter Try.func22, Try.ntmps22
      go_wp2_with (go_at_call 41; refine cS0.out.mono ?_; rintro e w1 ⟨rfl, hr, ho⟩; have HR1 := Lib.hid hr; have HO1 := Lib.hid ho; clear hr ho)
      go_ret
      rw [HS.out]
      exact ⟨rfl, HR1.out, HO1.out⟩
    · have h2 : m < n := by omega
      clear h0
      go_enter Try.func22, Try.ntmps22
      go_wp2_with (go_at_call 41; refine cS0.out.mono ?_; rintro e w1 ⟨rfl, hr, ho⟩; have HR1 := Lib.hid hr; have HO1 := Lib.hid ho; clear hr ho)
      go_ret
      rw [HS.out]
      exact ⟨rfl, HR1.out, HO1.out⟩
  · obtain ⟨k, rfl⟩ : ∃ k : Nat, n = k := ⟨n.toNat, by omega⟩
    obtain ⟨j, rfl⟩ : ∃ j : Nat, m = j := ⟨m.toNat, by omega⟩
    have hkj : k ≤ j := by omega
    have e1 := fun h1 => text_short s h0 h1
    have e2 := fun h1 h2 => text_zero s h0 h1 h2
    have e3 := fun h1 h2 => text_form s h0 h1 h2
    simp only [Int.toNat_natCast] at e2 e3
    clear h0
    have hle := take_len s (j : Int)
    rw [if_neg (by omega)] at hle
    obtain ⟨t, ht⟩ : ∃ t, t = (takeS s (j : Int)).2 := ⟨_, rfl⟩
    rw [← ht] at hL cT e1 e2 e3 hle
    obtain ⟨q, hq⟩ : ∃ q, q = t.length := ⟨_, rfl⟩
    have HQ := Lib.hid hq
    rw [← hq] at e1 e2 e3 hL hle
    by_cases h1 : q < j
    · have HS := Lib.hid (e1 (by omega))
      clear e1 e2 e3 hq ht
      go_enter Try.func22, Try.ntmps22
      go_wp2_with (go_at_call 42; refine cT.out.mono ?_; rintro e w1 ⟨⟨A, c, he, hO, hc⟩, hr, ho⟩; rw [← HQ.out] at he hc; subst he; have HO := Lib.hid hO; have HR1 := Lib.hid hr; have HO1 := Lib.hid ho; clear hO hr ho)
      go_ret
      rw [HS.out]
      exact ⟨rfl, HR1.out, HO1.out⟩
    · obtain rfl : q = j := by omega
      obtain ⟨i0, hi, hsz⟩ := u8one
      have r2 := fun A c w => run_cut (P := Try.prog) Try.underlying27 hi hsz A q c k hkj w
      have r1 := fun A c w (h : k ≤ c) => run_upTo (P := Try.prog) Try.underlying27 hi A q c k h w
      have htk : (t.take k).length = k := by simp; omega
      have htd : (t.drop k).length = q - k := by simp; omega
      cases hz : zeroB (t.drop k) with
      | true =>
        have HS := Lib.hid (e2 (by omega) hz)
        have HZ := Lib.hid hz
        have HTK := Lib.hid htk
        have HTD := Lib.hid htd
        clear e1 e2 e3 hq hz htk htd hi hsz ht hle h1
        go_enter Try.func22, Try.ntmps22
        go_wp2_with (first
          | (go_at_call 42; refine cT.out.mono ?_; rintro e w1 ⟨⟨A, c, he, hO, hc⟩, hr, ho⟩; rw [← HQ.out] at he hc; subst he; have hkc : k ≤ c := (by omega); have rt := run_text_n (P := Try.prog) Try.underlying27 Try.underlying5 Try.underlying9 (hO.1.take k) HTK.out c; have HO := Lib.hid hO; have HR1 := Lib.hid hr; have HO1 := Lib.hid ho; clear hO hr ho)
          | (go_at_call 43; refine (cZ _ _ (t.drop k) _ HTD.out _ (HO.out.cut (by rw [← HQ.out]; exact hc)).1 (by omega)).out.mono ?_; rw [HZ.out]; rintro e w2 ⟨rfl, rfl⟩))
        go_ret
        rw [HS.out]
        exact ⟨rfl, HR1.out, HO1.out⟩
      | false =>
        have HS := Lib.hid (e3 (by omega) hz)
        have HZ := Lib.hid hz
        have HTD := Lib.hid htd
        clear e1 e2 e3 hq hz htk htd hi hsz ht hle h1
        go_enter Try.func22, Try.ntmps22
        go_wp2_with (first
          | (go_at_call 42; refine cT.out.mono ?_; rintro e w1 ⟨⟨A, c, he, hO, hc⟩, hr, ho⟩; rw [← HQ.out] at he hc; subst he; have hkc : k ≤ c := (by omega); have HO := Lib.hid hO; have HR1 := Lib.hid hr; have HO1 := Lib.hid ho; clear hO hr ho)
          | (go_at_call 43; refine (cZ _ _ (t.drop k) _ HTD.out _ (HO.out.cut (by rw [← HQ.out]; exact hc)).1 (by omega)).out.mono ?_; rw [HZ.out]; rintro e w2 ⟨rfl, rfl⟩)
          | (go_at_call 41; refine (cS _ _ _ HR1.out).out.mono ?_; rintro e w3 ⟨rfl, hr, ho⟩; have HR3 := Lib.hid hr; have HO3 := Lib.hid ho; clear hr ho))
        go_ret
        rw [HS.out]
        exact ⟨rfl, HR3.out, HO1.out.trans HO3.out⟩

theorem Left_any (g : Nat) (s : St) (w : World) (h : Rd 73 w g s) :
    Calls Try.prog 45 #[.pointer (some ⟨g, 0, none⟩)] w fun e w' => e = .returned (.int .i64 (s.b.length : Int)) ∧ w = w' := by
  obtain ⟨A, c, hh, ho, hc, hl, hok⟩ := h
  obtain ⟨c0, c1, f0, f1⟩ := cells2 hh
  clear hh
  go_enter Try.func45, Try.ntmps45
  go_wp2
  go_ret
  exact ⟨rfl, rfl⟩
theorem Err_any (g : Nat) (s : St) (w : World) (h : Rd 73 w g s) :
    Calls Try.prog 44 #[.pointer (some ⟨g, 0, none⟩)] w fun e w' => e = .returned (.int .i64 s.e) ∧ w = w' := by
  obtain ⟨A, c, hh, ho, hc, hl, hok⟩ := h
  obtain ⟨c0, c1, f0, f1⟩ := cells2 hh
  clear hh
  go_enter Try.func44, Try.ntmps44
  go_wp2
  go_ret
  exact ⟨rfl, rfl⟩
theorem ret_int {k : IntKind} {a b : Int} (h : a = b) : Ending.returned (.int k a) = .returned (.int k b) := by rw [h]
set_option maxHeartbeats 400000 in
theorem End_any (g : Nat) (s : St) (w : World) (h : Rd 73 w g s) :
    Calls Try.prog 27 #[.pointer (some ⟨g, 0, none⟩)] w fun e w' => e = .returned (.int .i64 (endS s)) ∧ w = w' := by
  have cL := Lib.hid (Left_any g s w h)
  have cE := Lib.hid (Err_any g s w h)
  clear h
  by_cases he : s.e = 0
  · rw [he] at cE
    by_cases hp : 0 < s.b.length
    · have HR := Lib.hid (show endS s = 6 from if_pos ⟨he, hp⟩)
      clear he
      go_enter Try.func27, Try.ntmps27
      go_wp2_with (first | (go_at_call 44; refine cE.out.mono ?_; rintro e w' ⟨rfl, rfl⟩) | (go_at_call 45; refine cL.out.mono ?_; rintro e w' ⟨rfl, rfl⟩))
      go_ret
      exact ⟨ret_int HR.out.symm, rfl⟩
    · have HR := Lib.hid (show endS s = 0 from (if_neg (fun h => hp h.2)).trans he)
      obtain ⟨q, hq⟩ : ∃ q, q = s.b.length := ⟨_, rfl⟩
      rw [← hq] at cL hp
      obtain rfl : q = 0 := by omega
      clear he hq hp
      go_enter Try.func27, Try.ntmps27
      go_wp2_with (first | (go_at_call 44; refine cE.out.mono ?_; rintro e w' ⟨rfl, rfl⟩) | (go_at_call 45; refine cL.out.mono ?_; rintro e w' ⟨rfl, rfl⟩))
      go_ret
      exact ⟨ret_int HR.out.symm, rfl⟩
  · have HR := Lib.hid (show endS s = s.e from if_neg (fun h => he h.1))
    have hb : (s.e == 0) = false := by simpa using he
    clear he
    go_enter Try.func27, Try.ntmps27
    go_wp2_with (first | (go_at_call 44; refine cE.out.mono ?_; rintro e w' ⟨rfl, rfl⟩) | (go_at_call 45; refine cL.out.mono ?_; rintro e w' ⟨rfl, rfl⟩))
    go_ret
    exact ⟨ret_int HR.out.symm, rfl⟩

set_option maxHeartbeats 400000 in
theorem Open_any (p : Option Addr) (c : Nat) (l : List UInt8) (w : World) (h : BL w p l) (hl : l.length ≤ 140737488355000) :
    Calls Try.prog 21 #[.slice p l.length c] w fun e w' => ∃ g, e = .returned (.pointer (some ⟨g, 0, none⟩)) ∧ Rd 73 w' g ⟨l, 0⟩ ∧ w.heap.size ≤ g ∧ Below w.heap.size w w' := by
  have cC := Lib.hid (clone_any p c l w h (by omega))
  have HL := Lib.hid hl
  clear h hl
  go_enter Try.func21, Try.ntmps21
  go_wp2_with (go_at_call 40; refine cC.out.mono ?_; rintro e w1 ⟨rfl, hrow, hb⟩; have HROW := Lib.hid hrow; have HB := Lib.hid hb; clear hrow hb)
  go_ret
  refine ⟨w1.heap.size, rfl, ⟨some ⟨w.heap.size, 0, none⟩, l.length, heap_alloc_new w1 _, ⟨⟨HROW.out.bl.alloc _, fun _ a ha => ?_⟩, fun _ a ha => ?_⟩, Nat.le_refl _, HL.out, fun _ => by simp_all⟩, HB.out.size, HB.out.alloc HB.out.size _⟩
  · obtain rfl : a = ⟨w.heap.size, 0, none⟩ := by simpa using ha.symm
    have := HROW.out.lt
    show w.heap.size ≠ w1.heap.size
    omega
  · obtain rfl : a = ⟨w.heap.size, 0, none⟩ := by simpa using ha.symm
    exact ⟨_, (heap_alloc_old _ _ HROW.out.lt).trans HROW.out⟩

/-! of a reader that is nil -/
theorem Num_nil (n : Int) (w : World) : Calls Try.prog 26 #[.pointer none, .int .i64 n] w fun e w' => e = .returned (.int .u64 0) ∧ w = w' := by
  have cW := fun w => Lib.hid (isWidth_any n w)
  cases hw : isW n with
  | false =>
    rw [hw] at cW
    clear hw
    go_enter Try.func26, Try.ntmps26
    go_wp2_with (first
      | (go_at_call 29; refine (cW _).out.mono ?_; rintro e w' ⟨rfl, rfl⟩)
      | (go_at_call 41; refine (spoil_none _ _).mono ?_; rintro e w1 ⟨rfl, rfl⟩))
    go_ret
    exact ⟨rfl, rfl⟩
  | true =>
    rw [hw] at cW
    clear hw
    go_enter Try.func26, Try.ntmps26
    go_wp2_with (first
      | (go_at_call 29; refine (cW _).out.mono ?_; rintro e w' ⟨rfl, rfl⟩)
      | (go_at_call 42; refine (take_nil _ _).mono ?_; rintro e w1 ⟨rfl, rfl⟩))
    go_loop [5, 17] (fun x i => x = .int .u64 0 ∧ i = .int .i64 0) (fun _ _ => 0)
    case atStart => exact ⟨rfl, rfl⟩
    case round =>
      obtain ⟨rfl, rfl⟩ := hrel
      go_wp2
      go_ret
      exact ⟨rfl, rfl⟩
theorem Zeros_nil (n : Int) (w : World) : Calls Try.prog 25 #[.pointer none, .int .i64 n] w fun e w' => e = .returned (.tuple #[]) ∧ w = w' := by
  have cZ := fun w => Lib.hid (allZero_any none 0 [] w (BL.nil _ _) (by simp))
  go_enter Try.func25, Try.ntmps25
  go_wp2_with (first
    | (go_at_call 42; refine (take_nil _ _).mono ?_; rintro e w1 ⟨rfl, rfl⟩)
    | (go_at_call 43; refine (cZ _).out.mono ?_; rintro e w2 ⟨rfl, rfl⟩))
  go_end0
  exact ⟨rfl, rfl⟩
theorem Left_nil (w : World) : Calls Try.prog 45 #[.pointer none] w fun e w' => e = .returned (.int .i64 0) ∧ w = w' := by
  go_enter Try.func45, Try.ntmps45
  go_wp2
  go_ret
  exact ⟨rfl, rfl⟩
theorem Err_nil (w : World) : Calls Try.prog 44 #[.pointer none] w fun e w' => e = .returned (.int .i64 1) ∧ w = w' := by
  go_enter Try.func44, Try.ntmps44
  go_wp2
  go_ret
  exact ⟨rfl, rfl⟩
theorem End_nil (w : World) : Calls Try.prog 27 #[.pointer none] w fun e w' => e = .returned (.int .i64 1) ∧ w = w' := by
  go_enter Try.func27, Try.ntmps27
  go_wp2_with (first | (go_at_call 44; refine (Err_nil _).mono ?_; rintro e w' ⟨rfl, rfl⟩) | (go_at_call 45; refine (Left_nil _).mono ?_; rintro e w' ⟨rfl, rfl⟩))
  go_ret
  exact ⟨rfl, rfl⟩
theorem Text_nil (n m : Int) (w : World) : Calls Try.prog 22 #[.pointer none, .int .i64 n, .int .i64 m] w fun e w' => e = .returned (.string ⟨#[]⟩) ∧ w = w' := by
  have cZ := fun w => Lib.hid (allZero_any none 0 [] w (BL.nil _ _) (by simp))
  by_cases h0 : n < 0
  · go_enter Try.func22, Try.ntmps22
    go_wp2_with (go_at_call 41; refine (spoil_none _ _).mono ?_; rintro e w1 ⟨rfl, rfl⟩)
    go_ret
    exact ⟨rfl, rfl⟩
  by_cases h1 : m < n
  · go_enter Try.func22, Try.ntmps22
    go_wp2_with (go_at_call 41; refine (spoil_none _ _).mono ?_; rintro e w1 ⟨rfl, rfl⟩)
    go_ret
    exact ⟨rfl, rfl⟩
  by_cases h2 : 0 < m
  · go_enter Try.func22, Try.ntmps22
    go_wp2_with (go_at_call 42; refine (take_nil _ _).mono ?_; rintro e w1 ⟨rfl, rfl⟩)
    go_ret
    exact ⟨rfl, rfl⟩
  · obtain rfl : m = 0 := by omega
    obtain rfl : n = 0 := by omega
    have rt := fun w => run_text_n (P := Try.prog) Try.underlying27 Try.underlying5 Try.underlying9 (BL.nil w none) (n := 0) rfl 0
    clear h0 h1 h2
    go_enter Try.func22, Try.ntmps22
    go_wp2_with (first
      | (go_at_call 42; refine (take_nil _ _).mono ?_; rintro e w1 ⟨rfl, rfl⟩)
      | (go_at_call 43; refine (cZ _).out.mono ?_; rintro e w2 ⟨rfl, rfl⟩))
    go_ret
    exact ⟨rfl, rfl⟩
end Wd
end Go.Proofs.Yteefkhgmcknbaaa
