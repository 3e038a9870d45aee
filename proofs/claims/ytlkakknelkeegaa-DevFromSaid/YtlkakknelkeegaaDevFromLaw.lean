/-
  DevFrom, walked.
-/
import Derived.Test.YtlkakknelkeegaaDevBoth
namespace Go.Proofs.Ytlkakknelkeegaa
open Go.RowKit
namespace Dv
open Mem

theorem From_err (m : Int) (A : Option Addr) (N c : Nat) (w : World) (hN : N ≤ maxLen) (h : ∀ n k : Nat, m = (k : Int) → 1 ≤ k → k ≤ 65536 → 5 ≤ n → n ≤ 65536 → N ≠ n * k) :
    Calls Try.prog 16 #[.int .i64 m, .slice A N c] w fun e w' => e = .returned (.tuple #[.pointer none, .int .i64 2]) ∧ w = w' := by
  by_cases hm : 1 ≤ m ∧ m ≤ 65536
  · obtain ⟨k, rfl⟩ : ∃ k : Nat, m = k := ⟨m.toNat, by omega⟩
    by_cases hr : N % k = 0
    · have hN' : N = N / k * k := by
        have := Nat.div_add_mod N k
        rw [hr, Nat.add_zero, Nat.mul_comm] at this
        exact this.symm
      exact From_few k (N / k) A N c w (by omega) (by omega) hN' (fun hh => h (N / k) k rfl (by omega) (by omega) hh.1 hh.2 hN') hN
    · exact From_rest k A N c w (by omega) (by omega) hr hN
  · exact From_size m _ w hm

set_option maxHeartbeats 4000000 in
set_option maxRecDepth 100000 in
theorem DevFrom_out (m : Int) (A : Option Addr) (N c : Nat) (ask : Nat) (w : World) (hN : N ≤ 3000) (h : ∀ n k : Nat, m = (k : Int) → 1 ≤ k → k ≤ 65536 → 5 ≤ n → n ≤ 65536 → N ≠ n * k) (mm : -9223372036854775808 ≤ m ∧ m ≤ 9223372036854775807) :
    Calls Try.prog 4 #[.int .i64 m, .slice A N c, .int .u32 (ask : Int)] w fun e w' => e = .returned (.bool true) ∧ Below w.heap.size w w' := by
  have cA := fun w => Lib.hid (awake_any w)
  have cF := Lib.hid (From_err m A N c w (by unfold maxLen; omega) h)
  by_cases h1 : m < 1
  · clear h
    go_enter Try.func4, Try.ntmps4
    go_wp2_with (first
      | (go_at_call 16; refine cF.out.mono ?_; rintro e w' ⟨rfl, rfl⟩)
      | (go_at_call 9; refine (cA _).out.mono ?_; rintro e w' ⟨rfl, hb⟩; have HB := Lib.hid hb; clear hb))
    go_ret
    exact ⟨rfl, HB.out⟩
  · obtain ⟨k, rfl⟩ : ∃ k : Nat, m = k := ⟨m.toNat, by omega⟩
    by_cases hr : N % k = 0
    · have hN' : N = N / k * k := by
        have := Nat.div_add_mod N k
        rw [hr, Nat.add_zero, Nat.mul_comm] at this
        exact this.symm
      have hR : ¬ (5 ≤ ((N / k : Nat) : Int) ∧ ((N / k : Nat) : Int) ≤ 65536 ∧ 1 ≤ (k : Int) ∧ (k : Int) ≤ 65536) := fun hh => h (N / k) k rfl (by omega) (by omega) (by omega) (by omega) hN'
      obtain ⟨n, hn⟩ : ∃ n, n = N / k := ⟨_, rfl⟩
      rw [← hn] at hR
      have cR := fun w => Lib.hid (Right_no (n : Int) (k : Int) w hR)
      have hr1 : ((N : Int) % (k : Int) != 0) = false := by
        have : ((N % k : Nat) : Int) = 0 := by rw [hr]; rfl
        have h2 : (N : Int) % (k : Int) = 0 := by simpa using this
        rw [h2]; rfl
      have hq : (N : Int) / (k : Int) = (n : Int) := by rw [hn]; simp
      have hnN : n ≤ N := by rw [hn]; exact Nat.div_le_self _ _
      have hw : IntKind.i64.wrap (n : Int) = (n : Int) := by rw [IntKind.wrap_i64]; omega
      clear h hN' hR hn hr
      go_enter Try.func4, Try.ntmps4
      go_wp2_with (first
        | (go_at_call 16; refine cF.out.mono ?_; rintro e w' ⟨rfl, rfl⟩)
        | (go_at_call 7; refine (cR _).out.mono ?_; rintro e w' ⟨rfl, rfl⟩)
        | (go_at_call 9; refine (cA _).out.mono ?_; rintro e w' ⟨rfl, hb⟩; have HB := Lib.hid hb; clear hb))
      go_ret
      exact ⟨rfl, HB.out⟩
    · have hr1 : ((N : Int) % (k : Int) != 0) = true := by
        simp only [bne_iff_ne, ne_eq]
        intro h'
        apply hr
        have : ((N % k : Nat) : Int) = 0 := by simpa using h'
        omega
      clear h hr
      go_enter Try.func4, Try.ntmps4
      go_wp2_with (first
        | (go_at_call 16; refine cF.out.mono ?_; rintro e w' ⟨rfl, rfl⟩)
        | (go_at_call 9; refine (cA _).out.mono ?_; rintro e w' ⟨rfl, hb⟩; have HB := Lib.hid hb; clear hb))
      go_ret
      exact ⟨rfl, HB.out⟩

set_option maxHeartbeats 4000000 in
theorem DevFrom_long (m : Int) (A : Option Addr) (N c : Nat) (v : Value) (w : World) (hN : 3000 < N) (hm : N ≤ maxLen) :
    Calls Try.prog 4 #[.int .i64 m, .slice A N c, v] w fun e w' => e = .returned (.bool true) ∧ Below w.heap.size w w' := by
  have cA := fun w => Lib.hid (awake_any w)
  unfold maxLen at hm
  go_enter Try.func4, Try.ntmps4
  go_wp2_with (go_at_call 9; refine (cA _).out.mono ?_; rintro e w' ⟨rfl, hb⟩; have HB := Lib.hid hb; clear hb)
  go_ret
  exact ⟨rfl, HB.out⟩

def EvPic (N : Nat) (l : List UInt8) (v : Value) (w : World) : Prop := ∃ q, v = .slice (some ⟨q, 0, none⟩) N N ∧ Row 5 w q l
set_option maxHeartbeats 4000000 in
set_option maxRecDepth 100000 in
theorem DevFrom_in (m n N c ask : Nat) (A : Option Addr) (l : List UInt8) (w : World) (m1 : 1 ≤ m) (m2 : m ≤ 65536) (n1 : 5 ≤ n) (n2 : n ≤ 65536) (hN : N = n * m) (hl : l.length = N) (hN3 : N ≤ 3000) (hA : BL w A l) (hask : ask < 4294967296) :
    Calls Try.prog 4 #[.int .i64 (m : Int), .slice A N c, .int .u32 (ask : Int)] w fun e w' => e = .returned (.bool true) ∧ Below w.heap.size w w' := by
  have cA := fun w => Lib.hid (awake_any w)
  have cF : Hid (Calls Try.prog 16 #[.int .i64 (m : Int), .slice A N c] w fun e w' => Mk w w w' m (chunks l m n) 0 0 e) := by
    have := From_mk (Below.refl w.heap.size w) m n c A l m1 m2 n1 n2 (by rw [hl, hN]) hA (by rw [← hN]; omega)
    rw [hl] at this
    exact this
  have cR := fun w => Lib.hid (Right_yes (n : Int) (m : Int) w ⟨by omega, by omega, by omega, by omega⟩)
  have cG := fun w => Lib.hid (RFrom_n n m N l w (by omega) n2 m1 m2 hN hl (by omega))
  have HFL : Hid ((chunks l m n).flatten = l) := by unfold Hid; rw [chunks_flat, ← hN, ← hl, List.take_length]
  have HCL := Lib.hid (chunks_len l m n)
  have hr1 : ((N : Int) % (m : Int) != 0) = false := by rw [hN]; simp
  have hq : (N : Int) / (m : Int) = (n : Int) := by
    have : ((N / m : Nat) : Int) = n := by rw [hN, Nat.mul_div_cancel n (by omega)]
    simpa using this
  have hnN : n ≤ N := by rw [hN]; exact Nat.le_mul_of_pos_right n (by omega)
  have hmN : m ≤ N := by rw [hN]; exact Nat.le_mul_of_pos_left m (by omega)
  have hw : IntKind.i64.wrap (n : Int) = (n : Int) := by rw [IntKind.wrap_i64]; omega
  have hmul : IntKind.i64.wrap ((n : Int) * (m : Int)) = (N : Int) := by
    have : (n : Int) * (m : Int) = (N : Int) := by rw [hN]; simp
    rw [this, IntKind.wrap_i64]; omega
  have hcv : ∀ w1, BL w1 A l → (convert 34 9 (.slice A N c)).run Try.prog w1 = .ok (.string (strOf l)) w1 := fun w1 h => run_text_n Try.underlying34 Try.underlying5 Try.underlying9 h hl c
  have HCV := Lib.hid hcv
  have HA := Lib.hid hA
  have HL := Lib.hid hl
  have HNN := Lib.hid hN
  generalize chunks l m n = ls at *
  clear hcv hA hN hl
  go_enter Try.func4, Try.ntmps4
  go_upto_region 8 with (first
    | (go_at_call 16; refine cF.out.mono ?_; rintro e w1 ⟨g, S, rfl, hd, -, -⟩; have HD1 := Lib.hid hd; clear hd)
    | (go_at_call 7; refine (cR _).out.mono ?_; rintro e w' ⟨rfl, rfl⟩))
  have hcv1 := HCV.out w1 (HA.out.below HD1.out.bel)
  have cH : ∀ w h c, Rf w h c n ls → Hid (Calls Try.prog 14 #[.agg #[.int .i64 (m : Int), .slice (some ⟨h, 0, none⟩) n c, .int .i64 0, .int .i64 0], .int .u32 (ask : Int)] w fun e w' =>
      e = .returned (.tuple #[.agg #[.int .i64 (m : Int), .slice (some ⟨h, 0, none⟩) n c, .int .i64 ((rdS ls ask 0 : Nat) : Int), .int .i64 0], .string (strOf (rdX ls ask)), .int .i64 (rdE ls ask)]) ∧ Below w.heap.size w w') := fun w h c H => RGet H m 0 0 ask hask (by omega)
  clear hr1 hq cF cR
  go_upto_region 9 with (first
    | (go_at_call 22; refine (cG _).out.mono ?_; rintro e w2 ⟨⟨h, c', rfl, hR, -⟩, hb⟩; have HR2 := Lib.hid hR; have HB2 := Lib.hid hb; clear hR hb)
    | (go_at_call 14; refine (cH _ _ _ HR2.out).out.mono ?_; rintro e w3 ⟨rfl, hb⟩; have HB3 := Lib.hid hb; clear hb))
  have HD4 := Lib.hid (((HD1.out.kept HB2.out).kept HB3.out).kept ((Below.refl _ _).alloc (Nat.le_refl _) (.cells #[.int .i64 (m : Int), .slice (some ⟨h, 0, none⟩) n c', .int .i64 ((rdS ls ask 0 : Nat) : Int), .int .i64 0] 31)))
  generalize w3.alloc (.cells #[.int .i64 (m : Int), .slice (some ⟨h, 0, none⟩) n c', .int .i64 ((rdS ls ask 0 : Nat) : Int), .int .i64 0] 31) = w4 at *
  have cD := Lib.hid (HD4.out.Get ask (by omega))
  clear hcv1 cH HR2 HB2 HB3 HD1 cG
  go_upto_region 10 with (go_at_call 15; refine cD.out.mono ?_; rintro e w5 ⟨A5, k5, rfl, hbl, hd, -⟩; have HBL5 := Lib.hid hbl; have HD5 := Lib.hid hd; clear hbl hd)
  generalize rdX ls ask = X at *
  generalize rdE ls ask = E at *
  have cv1 : ∀ q : Drift.Tide [] w5 [], (convert 34 9 (.slice A5 X.length k5)).run Try.prog q.sea = .ok (.string (strOf X)) q.sea := fun q => run_text Try.underlying34 Try.underlying5 Try.underlying9 (HBL5.out.below q.into.below) k5
  have cv2 : ∀ q : Drift.Tide [] w5 [], (convert 34 9 (.slice A N c)).run Try.prog q.sea = .ok (.string (strOf l)) q.sea := fun q => HCV.out _ (HA.out.below (HD5.out.bel.trans (q.into.below.mono HD5.out.size)))
  have cI : ∀ w6 S' r s, Dw w w6 S' g m ls r s → Hid (Calls Try.prog 17 #[.pointer (some ⟨g, 0, none⟩)] w6 fun e w' => Pictured w6 w' N l e ∧ Below w6.heap.size w6 w') := fun w6 S' r s h => by
    have := Image_n h.dv n N HCL.out.symm HNN.out (by omega)
    rw [HFL.out] at this
    exact this
  have cB : ∀ w6 S' r s, Dw w w6 S' g m ls r s → Hid (Calls Try.prog 20 #[.pointer (some ⟨g, 0, none⟩)] w6 fun e w' => e = .returned (.int .i64 (n : Int)) ∧ w6 = w') := fun w6 S' r s h => by
    have := Blocks_any h.dv
    rw [HCL.out] at this
    exact this
  have hx : ((N : Int) == (N : Int)) = true := by simp
  generalize X.length = x at *
  refine Drift.wp_region_drift [] [(0,[]),(1,[]),(2,[]),(3,[]),(4,[]),(5,[]),(6,[]),(7,[]),(8,[]),(9,[]),(10,[]),(13,[]),(14,[]),(11,[]),(12,[]),(15,[]),(16,[]),(17,[]),(18,[]),(19,[]),(20,[]),(21,[]),(22,[]),(23,[]),(24,[]),(25,[]),(26,[]),(27,[]),(28,[]),(29,[])] [11] [] (by kernel_rfl) (by kernel_rfl) (by simp) ?_
  simp only [Drift.pick, Drift.opsAt, List.getElem?_toArray, List.getElem?_cons_zero, List.getElem?_cons_succ, List.cons_append, List.nil_append, List.filterMap_cons, List.filterMap_nil]
  repeat (refine Drift.walk_step (fun K hK => ?_); go_simp; (refine hK _ ?_; clear hK K))
  refine Drift.walk_event rfl Drift.mkwalk_nil (EvPic N l) (fun W hk _ => ?_) (fun v w6 hv hI _ hTd => ?_)
  · go_simp
    go_at_call 17
    exact (cI W _ _ _ (HD5.out.kept hk)).out.mono fun e w' ⟨⟨q, he, hr, _⟩, hb⟩ => ⟨_, he, ⟨q, rfl, hr⟩, Flow.Into.of_below hb⟩
  · obtain ⟨q6, rfl, hrow⟩ := hv
    have HD6 := Lib.hid (HD5.out.kept hI.below)
    have HR6 := Lib.hid hrow
    have cv3 : ∀ q : Drift.Tide [] w6 [], (convert 34 9 (.slice (some ⟨q6, 0, none⟩) N N)).run Try.prog q.sea = .ok (.string (strOf l)) q.sea := fun q => run_text_n Try.underlying34 Try.underlying5 Try.underlying9 (HR6.out.bl.below q.into.below) HL.out N
    clear cv1 cv2 hrow hI
    repeat (refine Drift.walk_step (fun K hK => ?_); go_simp; first | (refine hK _ ?_; clear hK K) | (apply Exists.intro; refine ⟨fun q => ?_, hK _ ?_⟩; (first | (go_at_call 20; exact (cB _ _ _ _ (HD6.out.kept q.into.below)).out.mono fun e w' ⟨he, hw⟩ => ⟨he, by subst hw; exact Below.refl _ _⟩) | (go_at_call 9; exact (cA _).out)); clear hK K))
    refine Drift.walk_nil ?_
    intro w7 hb7 _
    have HB7 : Hid (Below w.heap.size w w7) := HD6.out.bel.trans (Below.mono hb7 HD6.out.size)
    clear hb7 cv3
    simp only [List.length_cons, List.length_nil, List.drop_succ_cons, List.drop_nil, Nat.zero_add, Nat.reduceAdd]
    go_wp2_with fail
    go_ret
    exact ⟨rfl, HB7.out⟩
theorem DevFrom_walk (m : Int) (A : Option Addr) (c : Nat) (l : List UInt8) (ask : Nat) (w : World) (hA : BL w A l) (_ : l.length ≤ c) (hm : l.length ≤ maxLen) (hask : ask < 4294967296) (mm : (Lit.int .i64 m).wf = true) :
    Calls Try.prog 4 #[.int .i64 m, .slice A l.length c, .int .u32 (ask : Int)] w fun e w' => e = .returned (.bool true) ∧ Below w.heap.size w w' := by
  have hmb := Args.i64_bounds mm
  by_cases h3 : 3000 < l.length
  · exact DevFrom_long m A l.length c _ w h3 hm
  · by_cases hh : ∃ n k : Nat, m = (k : Int) ∧ 1 ≤ k ∧ k ≤ 65536 ∧ 5 ≤ n ∧ n ≤ 65536 ∧ l.length = n * k
    · obtain ⟨n, k, rfl, h1, h2, h4, h5, h6⟩ := hh
      exact DevFrom_in k n l.length c ask A l w h1 h2 h4 h5 h6 rfl (by omega) hA hask
    · exact DevFrom_out m A l.length c ask w (by omega) (fun n k e h1 h2 h4 h5 h6 => hh ⟨n, k, e, h1, h2, h4, h5, h6⟩) hmb
end Dv
end Go.Proofs.Ytlkakknelkeegaa
