/-
  BitsPlay, walked: the loop.
-/
import Derived.Test.YtbdjminofehloaaDoorBitsPlay
namespace Go.Proofs.YtbdjminofehloaaDoor
open Go.RowKit
namespace Bt
open Mem

set_option maxHeartbeats 4000000 in
set_option maxRecDepth 100000 in
theorem BitsPlay_in (n : Nat) (q : Option Addr) (d : Nat) (ac : List (Int × Int)) (ask : Int) (w : World) (hT : Tab w) (h0 : 1 ≤ n) (h1 : n ≤ 300) (ha : ActL w q ac) (hda : ac.length ≤ maxLen) (hask : ask ≤ 9223372036854775807) :
    Calls Tryd.prog 3 #[.int .i64 (n : Int), .slice q ac.length d, .int .i64 ask] w fun e w' => e = .returned (.bool true) ∧ Below w.heap.size w w' := by
  have cA := fun w hT => Lib.hid (awake_any w hT)
  have cN := Lib.hid (New_rw w w hT (Below.refl _ _) n (by omega) (by omega))
  have cR : ∀ g b w1, Rw w w1 g b (List.replicate n false) → Hid (Calls Tryd.prog 9 #[.int .i64 (n : Int)] w1 fun e w' => ∃ h c, e = .returned (.slice (some ⟨h, 0, none⟩) n c) ∧ Pl w w' g b h c n (List.replicate n false) (List.replicate n false)) := fun g b w1 h => h.RNew hT (by omega)
  unfold maxLen at hda
  have HT := Lib.hid hT
  generalize List.replicate n false = t0 at *
  obtain ⟨N, hN⟩ : ∃ N, N = ac.length := ⟨_, rfl⟩
  rw [← hN] at hda ⊢
  have HNN := Lib.hid hN
  have HAL := Lib.hid ha
  clear hN ha hT
  go_enter Tryd.func3, Tryd.ntmps3
  go_wp2_with (first
    | (go_at_call 5; refine cN.out.mono ?_; rintro e w1 ⟨g0, b0, rfl, hr, -⟩; have HR := Lib.hid hr; clear hr)
    | (go_at_call 9; refine (cR g0 b0 _ HR.out).out.mono ?_; rintro e w2 ⟨hh0, c0, rfl, hp⟩; have HP0 := Lib.hid hp; clear hp))
  clear cN cR
  go_loopw [7, 9, 10] (fun r v i wr => ∃ (k g b h c : Nat) (t : List Bool), k ≤ N ∧ i = .int .i64 k ∧ r = .pointer (some ⟨g, 0, none⟩) ∧ v = .slice (some ⟨h, 0, none⟩) n c ∧ Hid (Pl w wr g b h c n t t)) (fun _ _ i _ => N - (intOf i).toNat)
  case atStart => exact ⟨0, g0, b0, hh0, c0, t0, Nat.zero_le _, rfl, rfl, rfl, HP0⟩
  case round =>
    obtain ⟨k, g, b, h, c, t, hk, rfl, rfl, rfl, HP⟩ := hrel
    clear HP0 HR
    by_cases hlt : k < N ∧ k < 60
    · obtain ⟨k1, k2⟩ := hlt
      obtain ⟨ab, o, rfl, hc0, hc1⟩ := HAL.out.at_ (show k < ac.length by rw [← HNN.out]; exact k1)
      obtain ⟨kd, hkd⟩ : ∃ kd, kd = (ac[k]'(by rw [← HNN.out]; exact k1)).1 := ⟨_, rfl⟩
      obtain ⟨x, hx⟩ : ∃ x, x = (ac[k]'(by rw [← HNN.out]; exact k1)).2 := ⟨_, rfl⟩
      rw [← hkd] at hc0
      rw [← hx] at hc1
      have HC1 := Lib.hid hc1
      have d0 := cell_after HP.out.rw.bel hc0
      have d1 := cell_after HP.out.rw.bel hc1
      clear hkd hx hc0 hc1 cA
      by_cases kd0 : kd = 0
      · subst kd0
        go_wp2_with (first
          | (go_at_call 10; refine (HP.out.RSet HT.out x).mono ?_; rintro e w1 ⟨h1, c1, rfl, hp⟩; have HP1 := Lib.hid hp; have d3 := cell_after HP1.out.rw.bel HC1.out; clear hp)
          | (go_at_call 11; refine (HP1.out.Set HT.out x).mono ?_; rintro e w2 ⟨rfl, hp⟩; have HP2 := Lib.hid hp; clear hp d3; obtain ⟨vA, vC, vM, vX, vU, vV, t1, t2, t3, t4, t5, t6, t7, t8, t9⟩ := HP2.out.tells HT.out ask hask; have T1 := Lib.hid t1; have T2 := Lib.hid t2; have T3 := Lib.hid t3; have T4 := Lib.hid t4; have T5 := Lib.hid t5; have T6 := Lib.hid t6; have T7 := Lib.hid t7; have T8 := Lib.hid t8; have T9 := Lib.hid t9; clear t1 t2 t3 t4 t5 t6 t7 t8 t9)
          | (go_at_call 15; refine T1.out.mono ?_; rintro e w' ⟨rfl, rfl⟩)
          | (go_at_call 16; first | (refine T2.out.mono ?_; rintro e w' ⟨rfl, rfl⟩; clear T2) | (refine T4.out.mono ?_; rintro e w' ⟨rfl, rfl⟩))
          | (go_at_call 17; refine T3.out.mono ?_; rintro e w' ⟨rfl, rfl⟩)
          | (go_at_call 7; refine T5.out.mono ?_; rintro e w' ⟨rfl, rfl⟩)
          | (go_at_call 8; refine T6.out.mono ?_; rintro e w' ⟨rfl, rfl⟩)
          | (go_at_call 18; refine T7.out.mono ?_; rintro e w' ⟨rfl, rfl⟩)
          | (go_at_call 19; refine T8.out.mono ?_; rintro e w9 ⟨rfl, hp⟩; have HP9 := Lib.hid hp; clear hp)
          | (go_at_call 20; refine (T9.out _ HP9.out).mono ?_; rintro e w' ⟨rfl, rfl⟩))
        exact ⟨⟨k + 1, g, b, h1, c1, (setT t x), k1, by go_num, rfl, rfl, HP9⟩, by simp [intOf]; omega⟩
      by_cases kd1 : kd = 1
      · subst kd1
        go_wp2_with (first
          | (go_at_call 10; refine (HP.out.RSet HT.out x).mono ?_; rintro e w1 ⟨h1, c1, rfl, hp⟩; have HP1 := Lib.hid hp; have d3 := cell_after HP1.out.rw.bel HC1.out; clear hp)
          | (go_at_call 11; refine (HP1.out.Set HT.out x).mono ?_; rintro e w2 ⟨rfl, hp⟩; have HP2 := Lib.hid hp; clear hp d3; obtain ⟨vA, vC, vM, vX, vU, vV, t1, t2, t3, t4, t5, t6, t7, t8, t9⟩ := HP2.out.tells HT.out ask hask; have T1 := Lib.hid t1; have T2 := Lib.hid t2; have T3 := Lib.hid t3; have T4 := Lib.hid t4; have T5 := Lib.hid t5; have T6 := Lib.hid t6; have T7 := Lib.hid t7; have T8 := Lib.hid t8; have T9 := Lib.hid t9; clear t1 t2 t3 t4 t5 t6 t7 t8 t9)
          | (go_at_call 15; refine T1.out.mono ?_; rintro e w' ⟨rfl, rfl⟩)
          | (go_at_call 16; first | (refine T2.out.mono ?_; rintro e w' ⟨rfl, rfl⟩; clear T2) | (refine T4.out.mono ?_; rintro e w' ⟨rfl, rfl⟩))
          | (go_at_call 17; refine T3.out.mono ?_; rintro e w' ⟨rfl, rfl⟩)
          | (go_at_call 7; refine T5.out.mono ?_; rintro e w' ⟨rfl, rfl⟩)
          | (go_at_call 8; refine T6.out.mono ?_; rintro e w' ⟨rfl, rfl⟩)
          | (go_at_call 18; refine T7.out.mono ?_; rintro e w' ⟨rfl, rfl⟩)
          | (go_at_call 19; refine T8.out.mono ?_; rintro e w9 ⟨rfl, hp⟩; have HP9 := Lib.hid hp; clear hp)
          | (go_at_call 20; refine (T9.out _ HP9.out).mono ?_; rintro e w' ⟨rfl, rfl⟩))
        exact ⟨⟨k + 1, g, b, h1, c1, (setT t x), k1, by go_num, rfl, rfl, HP9⟩, by simp [intOf]; omega⟩
      by_cases kd2 : kd = 2
      · subst kd2
        go_wp2_with (first
          | (go_at_call 12; refine (HP.out.RClear HT.out x).mono ?_; rintro e w1 ⟨h1, c1, rfl, hp⟩; have HP1 := Lib.hid hp; have d3 := cell_after HP1.out.rw.bel HC1.out; clear hp)
          | (go_at_call 13; refine (HP1.out.Clear HT.out x).mono ?_; rintro e w2 ⟨rfl, hp⟩; have HP2 := Lib.hid hp; clear hp d3; obtain ⟨vA, vC, vM, vX, vU, vV, t1, t2, t3, t4, t5, t6, t7, t8, t9⟩ := HP2.out.tells HT.out ask hask; have T1 := Lib.hid t1; have T2 := Lib.hid t2; have T3 := Lib.hid t3; have T4 := Lib.hid t4; have T5 := Lib.hid t5; have T6 := Lib.hid t6; have T7 := Lib.hid t7; have T8 := Lib.hid t8; have T9 := Lib.hid t9; clear t1 t2 t3 t4 t5 t6 t7 t8 t9)
          | (go_at_call 15; refine T1.out.mono ?_; rintro e w' ⟨rfl, rfl⟩)
          | (go_at_call 16; first | (refine T2.out.mono ?_; rintro e w' ⟨rfl, rfl⟩; clear T2) | (refine T4.out.mono ?_; rintro e w' ⟨rfl, rfl⟩))
          | (go_at_call 17; refine T3.out.mono ?_; rintro e w' ⟨rfl, rfl⟩)
          | (go_at_call 7; refine T5.out.mono ?_; rintro e w' ⟨rfl, rfl⟩)
          | (go_at_call 8; refine T6.out.mono ?_; rintro e w' ⟨rfl, rfl⟩)
          | (go_at_call 18; refine T7.out.mono ?_; rintro e w' ⟨rfl, rfl⟩)
          | (go_at_call 19; refine T8.out.mono ?_; rintro e w9 ⟨rfl, hp⟩; have HP9 := Lib.hid hp; clear hp)
          | (go_at_call 20; refine (T9.out _ HP9.out).mono ?_; rintro e w' ⟨rfl, rfl⟩))
        exact ⟨⟨k + 1, g, b, h1, c1, (clrT t x), k1, by go_num, rfl, rfl, HP9⟩, by simp [intOf]; omega⟩
      by_cases kd3 : kd = 3
      · subst kd3
        go_wp2_with (first
          | (go_at_call 14; refine (HP.out.Fork HT.out).mono ?_; rintro e w1 ⟨g1, b1, rfl, hp⟩; have HP1 := Lib.hid hp; have d3 := cell_after HP1.out.new.rw.bel HC1.out; clear hp)
          | (go_at_call 11; refine (HP1.out.Set HT.out x).mono ?_; rintro e w2 ⟨y2, rfl, hp⟩; have HP2 := Lib.hid hp; clear hp d3)
          | (go_at_call 13; refine (HP2.out.Clear HT.out 0).mono ?_; rintro e w3 ⟨y3, rfl, hp⟩; have HP3 := Lib.hid hp.new; clear hp; obtain ⟨vA, vC, vM, vX, vU, vV, t1, t2, t3, t4, t5, t6, t7, t8, t9⟩ := HP3.out.tells HT.out ask hask; have T1 := Lib.hid t1; have T2 := Lib.hid t2; have T3 := Lib.hid t3; have T4 := Lib.hid t4; have T5 := Lib.hid t5; have T6 := Lib.hid t6; have T7 := Lib.hid t7; have T8 := Lib.hid t8; have T9 := Lib.hid t9; clear t1 t2 t3 t4 t5 t6 t7 t8 t9)
          | (go_at_call 15; refine T1.out.mono ?_; rintro e w' ⟨rfl, rfl⟩)
          | (go_at_call 16; first | (refine T2.out.mono ?_; rintro e w' ⟨rfl, rfl⟩; clear T2) | (refine T4.out.mono ?_; rintro e w' ⟨rfl, rfl⟩))
          | (go_at_call 17; refine T3.out.mono ?_; rintro e w' ⟨rfl, rfl⟩)
          | (go_at_call 7; refine T5.out.mono ?_; rintro e w' ⟨rfl, rfl⟩)
          | (go_at_call 8; refine T6.out.mono ?_; rintro e w' ⟨rfl, rfl⟩)
          | (go_at_call 18; refine T7.out.mono ?_; rintro e w' ⟨rfl, rfl⟩)
          | (go_at_call 19; refine T8.out.mono ?_; rintro e w9 ⟨rfl, hp⟩; have HP9 := Lib.hid hp; clear hp)
          | (go_at_call 20; refine (T9.out _ HP9.out).mono ?_; rintro e w' ⟨rfl, rfl⟩))
        exact ⟨⟨k + 1, g1, b1, h, c, t, k1, by go_num, rfl, rfl, HP9⟩, by simp [intOf]; omega⟩
      · have n0 : (kd == 0) = false := by simpa using kd0
        have n1 : (kd == 1) = false := by simpa using kd1
        have n2 : (kd == 2) = false := by simpa using kd2
        have n3 : (kd == 3) = false := by simpa using kd3
        clear kd0 kd1 kd2 kd3
        obtain ⟨vA, vC, vM, vX, vU, vV, t1, t2, t3, t4, t5, t6, t7, t8, t9⟩ := HP.out.tells HT.out ask hask; have T1 := Lib.hid t1; have T2 := Lib.hid t2; have T3 := Lib.hid t3; have T4 := Lib.hid t4; have T5 := Lib.hid t5; have T6 := Lib.hid t6; have T7 := Lib.hid t7; have T8 := Lib.hid t8; have T9 := Lib.hid t9; clear t1 t2 t3 t4 t5 t6 t7 t8 t9
        go_wp2_with (first
          | (go_at_call 15; refine T1.out.mono ?_; rintro e w' ⟨rfl, rfl⟩)
          | (go_at_call 16; first | (refine T2.out.mono ?_; rintro e w' ⟨rfl, rfl⟩; clear T2) | (refine T4.out.mono ?_; rintro e w' ⟨rfl, rfl⟩))
          | (go_at_call 17; refine T3.out.mono ?_; rintro e w' ⟨rfl, rfl⟩)
          | (go_at_call 7; refine T5.out.mono ?_; rintro e w' ⟨rfl, rfl⟩)
          | (go_at_call 8; refine T6.out.mono ?_; rintro e w' ⟨rfl, rfl⟩)
          | (go_at_call 18; refine T7.out.mono ?_; rintro e w' ⟨rfl, rfl⟩)
          | (go_at_call 19; refine T8.out.mono ?_; rintro e w9 ⟨rfl, hp⟩; have HP9 := Lib.hid hp; clear hp)
          | (go_at_call 20; refine (T9.out _ HP9.out).mono ?_; rintro e w' ⟨rfl, rfl⟩))
        exact ⟨⟨k + 1, g, b, h, c, t, k1, by go_num, rfl, rfl, HP9⟩, by simp [intOf]; omega⟩
    · by_cases h3 : k < N
      · have h4 : 60 ≤ k := by omega
        clear hlt
        go_wp2_with (go_at_call 6; refine (cA _ HP.out.rw.tab).out.mono ?_; rintro e w' ⟨rfl, hb⟩; have HB := Lib.hid hb; clear hb)
        go_ret
        exact ⟨rfl, HP.out.rw.bel.trans (HB.out.mono HP.out.rw.bel.size)⟩
      · obtain rfl : k = N := by omega
        clear hlt h3
        go_wp2_with (go_at_call 6; refine (cA _ HP.out.rw.tab).out.mono ?_; rintro e w' ⟨rfl, hb⟩; have HB := Lib.hid hb; clear hb)
        go_ret
        exact ⟨rfl, HP.out.rw.bel.trans (HB.out.mono HP.out.rw.bel.size)⟩
end Bt
end Go.Proofs.YtbdjminofehloaaDoor
