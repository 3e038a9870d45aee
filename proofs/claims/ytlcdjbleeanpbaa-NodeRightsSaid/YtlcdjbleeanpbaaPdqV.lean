/-
  PdqN PdqZ PdqY, in one text. Written by merge.py.
-/
import Derived.Test.YtlcdjbleeanpbaaPdqL
import Derived.Test.YtlcdjbleeanpbaaPdqW
import Derived.Test.YtlcdjbleeanpbaaPdqQ

namespace Go.Proofs.Ytlcdjbleeanpbaa
open Go.RowKit
namespace Pq
open Mem Hp
theorem and_le (z : Int) (M : Nat) (hM : M < 18446744073709551616) : ∃ m : Nat, bits .and .u64 z (M : Int) = (m : Int) ∧ m ≤ M := by
  refine ⟨(BitVec.ofInt 64 z &&& BitVec.ofInt 64 (M : Int)).toNat, ?_, ?_⟩
  · have h : (BitVec.ofInt 64 z &&& BitVec.ofInt 64 (M : Int)).toNat < 18446744073709551616 := (BitVec.ofInt 64 z &&& BitVec.ofInt 64 (M : Int)).isLt
    show IntKind.u64.wrap ((BitVec.ofInt 64 z &&& BitVec.ofInt 64 (M : Int)).toNat : Int) = _
    generalize (BitVec.ofInt 64 z &&& BitVec.ofInt 64 (M : Int)).toNat = q at *
    rw [IntKind.wrap_u64]
    omega
  · rw [BitVec.toNat_and]
    refine Nat.le_trans Nat.and_le_right ?_
    have : (BitVec.ofInt 64 (M : Int)).toNat = M := by
      rw [BitVec.ofInt_natCast, BitVec.toNat_ofNat]
      exact Nat.mod_eq_of_lt hM
    rw [this]
    exact Nat.le_refl _
set_option maxRecDepth 100000 in
set_option maxHeartbeats 4000000 in
theorem Next_any {w : World} {s : Nat} {z : Int} (h : w.heap[s]? = some (.cells #[.int .u64 z] 115 (0, 0))) : Calls Try.prog 91 #[.pointer (some ⟨s, 0, none⟩)] w fun e w' => ∃ y : Int, e = .returned (.int .u64 y) ∧ (∃ y : Int, w'.heap[s]? = some (.cells #[.int .u64 y] 115 (0, 0))) ∧ Flow.Into [s] w w' := by
  have H0 := Lib.hid h
  have hst : ∀ (w : World) (z y : Int), w.heap[s]? = some (.cells #[.int .u64 z] 115 (0, 0)) → (w.setCell ⟨s, 0, none⟩ (.int .u64 y)).heap[s]? = some (.cells #[.int .u64 y] 115 (0, 0)) ∧ Flow.Into [s] w (w.setCell ⟨s, 0, none⟩ (.int .u64 y)) := fun w z y h => ⟨by simp [World.setCell, Array.getElem?_modify, h], rfl, rfl, rfl, by simp [World.setCell], fun i _ hn => Below.heap_setCell _ _ _ _ (by simpa using hn)⟩
  have HST := Lib.hid hst
  have c0 : w.cell? ⟨s, 0, none⟩ = some (.int .u64 z) := by simp [World.cell?, h]
  clear h hst
  go_enter Try.func91, Try.ntmps91
  obtain ⟨m1, hm1⟩ : ∃ m, IntKind.u64.wrap (z * 8192) = m := ⟨_, rfl⟩
  obtain ⟨y1, hy1⟩ : ∃ y, bits .xor .u64 z m1 = y := ⟨_, rfl⟩
  go_upto_region 1 with fail
  have x0 := fun t : Drift.Tide [] w [] => Drift.Tide.cell c0 (by simp) t
  refine Drift.wp_region_drift [] [(0,[]),(1,[]),(2,[]),(3,[]),(4,[]),(5,[]),(6,[]),(7,[])] [] [] (by kernel_rfl) (by kernel_rfl) (by simp) ?_
  simp only [Drift.pick, Drift.opsAt, List.getElem?_toArray, List.getElem?_cons_zero, List.getElem?_cons_succ, List.cons_append, List.nil_append, List.filterMap_nil]
  repeat (refine Drift.walk_step (fun K hK => ?_); go_simp; (refine hK _ ?_; clear hK K))
  refine Drift.walk_nil ?_
  intro v1 hb1 _
  clear x0 c0
  have h1 := (hb1.block s (Array.getElem?_eq_some_iff.1 H0.out).1).trans H0.out
  have c0 : v1.cell? ⟨s, 0, none⟩ = some (.int .u64 z) := by simp [World.cell?, h1]
  have f0 : v1.frozen? ⟨s, 0, none⟩ = false := by simp [World.frozen?, h1]
  obtain ⟨g1, g2⟩ := HST.out v1 z y1 h1
  have H1 := Lib.hid g1
  have HI1 : Hid (Flow.Into [s] w (v1.setCell ⟨s, 0, none⟩ (.int .u64 y1))) := (Flow.Into.of_below hb1).trans g2
  clear g1 g2 h1 hb1 hm1
  simp only [List.length_cons, List.length_nil, List.drop_succ_cons, List.drop_zero, Nat.zero_add, Nat.reduceAdd]
  go_wp2_with fail
  (try rw [Flow.Nrm_normal])
  clear c0 f0 hy1
  generalize v1.setCell ⟨s, 0, none⟩ (.int .u64 y1) = u1 at *
  have c0 : u1.cell? ⟨s, 0, none⟩ = some (.int .u64 y1) := by simp [World.cell?, H1.out]
  obtain ⟨m2, hm2⟩ : ∃ m, y1 / 128 = m := ⟨_, rfl⟩
  obtain ⟨y2, hy2⟩ : ∃ y, bits .xor .u64 y1 m2 = y := ⟨_, rfl⟩
  go_upto_region 2 with fail
  have x0 := fun t : Drift.Tide [] u1 [] => Drift.Tide.cell c0 (by simp) t
  refine Drift.wp_region_drift [] [(0,[]),(1,[]),(2,[]),(3,[]),(4,[]),(5,[]),(6,[]),(7,[])] [] [] (by kernel_rfl) (by kernel_rfl) (by simp) ?_
  simp only [Drift.pick, Drift.opsAt, List.getElem?_toArray, List.getElem?_cons_zero, List.getElem?_cons_succ, List.cons_append, List.nil_append, List.filterMap_nil]
  repeat (refine Drift.walk_step (fun K hK => ?_); go_simp; (refine hK _ ?_; clear hK K))
  refine Drift.walk_nil ?_
  intro v2 hb2 _
  clear x0 c0
  have h1 := (hb2.block s (Array.getElem?_eq_some_iff.1 H1.out).1).trans H1.out
  have c0 : v2.cell? ⟨s, 0, none⟩ = some (.int .u64 y1) := by simp [World.cell?, h1]
  have f0 : v2.frozen? ⟨s, 0, none⟩ = false := by simp [World.frozen?, h1]
  obtain ⟨g1, g2⟩ := HST.out v2 y1 y2 h1
  have H2 := Lib.hid g1
  have HI2 : Hid (Flow.Into [s] w (v2.setCell ⟨s, 0, none⟩ (.int .u64 y2))) := (HI1.out.trans (Flow.Into.of_below hb2)).trans g2
  clear g1 g2 h1 hb2 hm2
  simp only [List.length_cons, List.length_nil, List.drop_succ_cons, List.drop_zero, Nat.zero_add, Nat.reduceAdd]
  go_wp2_with fail
  (try rw [Flow.Nrm_normal])
  clear c0 f0 hy2
  generalize v2.setCell ⟨s, 0, none⟩ (.int .u64 y2) = u2 at *
  have c0 : u2.cell? ⟨s, 0, none⟩ = some (.int .u64 y2) := by simp [World.cell?, H2.out]
  obtain ⟨m3, hm3⟩ : ∃ m, IntKind.u64.wrap (y2 * 131072) = m := ⟨_, rfl⟩
  obtain ⟨y3, hy3⟩ : ∃ y, bits .xor .u64 y2 m3 = y := ⟨_, rfl⟩
  go_upto_region 3 with fail
  have x0 := fun t : Drift.Tide [] u2 [] => Drift.Tide.cell c0 (by simp) t
  refine Drift.wp_region_drift [] [(0,[]),(1,[]),(2,[]),(3,[]),(4,[]),(5,[]),(6,[]),(7,[])] [] [] (by kernel_rfl) (by kernel_rfl) (by simp) ?_
  simp only [Drift.pick, Drift.opsAt, List.getElem?_toArray, List.getElem?_cons_zero, List.getElem?_cons_succ, List.cons_append, List.nil_append, List.filterMap_nil]
  repeat (refine Drift.walk_step (fun K hK => ?_); go_simp; (refine hK _ ?_; clear hK K))
  refine Drift.walk_nil ?_
  intro v3 hb3 _
  clear x0 c0
  have h1 := (hb3.block s (Array.getElem?_eq_some_iff.1 H2.out).1).trans H2.out
  have c0 : v3.cell? ⟨s, 0, none⟩ = some (.int .u64 y2) := by simp [World.cell?, h1]
  have f0 : v3.frozen? ⟨s, 0, none⟩ = false := by simp [World.frozen?, h1]
  obtain ⟨g1, g2⟩ := HST.out v3 y2 y3 h1
  have H3 := Lib.hid g1
  have HI3 : Hid (Flow.Into [s] w (v3.setCell ⟨s, 0, none⟩ (.int .u64 y3))) := (HI2.out.trans (Flow.Into.of_below hb3)).trans g2
  clear g1 g2 h1 hb3 hm3
  simp only [List.length_cons, List.length_nil, List.drop_succ_cons, List.drop_zero, Nat.zero_add, Nat.reduceAdd]
  go_wp2_with fail
  (try rw [Flow.Nrm_normal])
  clear c0 f0 hy3
  generalize v3.setCell ⟨s, 0, none⟩ (.int .u64 y3) = u3 at *
  have c0 : u3.cell? ⟨s, 0, none⟩ = some (.int .u64 y3) := by simp [World.cell?, H3.out]
  go_wp2_with fail
  go_ret
  exact ⟨_, rfl, ⟨_, H3.out⟩, HI3.out⟩
set_option maxRecDepth 100000 in
set_option maxHeartbeats 4000000 in
theorem break_any {w : World} {g c n a b : Nat} {l : List Nat} (h : Ow 38 w g c (l.map nV)) (hl : l.length = n) (hab : a + 12 < b) (hbn : b ≤ n) (hn : n ≤ 80) : Calls Try.prog 79 #[.slice (some ⟨g, 0, none⟩) n c, .int .i64 (a : Int), .int .i64 (b : Int)] w fun e w' => e = .returned (.tuple #[]) ∧ ∃ L, US w w' g c n l L a b := by
  obtain ⟨m0, hm⟩ : ∃ m, m = b - a := ⟨_, rfl⟩
  obtain ⟨q, hq⟩ : ∃ q, q = m0 / 4 := ⟨_, rfl⟩
  obtain ⟨q2, hq2⟩ : ∃ q2, q2 = q * 2 := ⟨_, rfl⟩
  obtain ⟨p1, hp1⟩ : ∃ p, p = a + q2 := ⟨_, rfl⟩
  obtain ⟨p0, hp0⟩ : ∃ p, p = p1 - 1 := ⟨_, rfl⟩
  obtain ⟨e1, he1⟩ : ∃ p, p = p1 + 1 := ⟨_, rfl⟩
  obtain ⟨e2, he2⟩ : ∃ p, p = p1 + 2 := ⟨_, rfl⟩
  have hw1 : IntKind.i64.wrap ((b : Int) - (a : Int)) = (m0 : Int) := by rw [IntKind.wrap_i64]; omega
  have hw2 : (m0 : Int).tdiv 4 = (q : Int) := by rw [Int.tdiv_eq_ediv_of_nonneg (by omega)]; omega
  have hw3 : IntKind.i64.wrap (q : Int) = (q : Int) := by rw [IntKind.wrap_i64]; omega
  have hw4 : IntKind.i64.wrap ((q : Int) * 2) = (q2 : Int) := by rw [IntKind.wrap_i64]; omega
  have hw5 : IntKind.i64.wrap ((a : Int) + (q2 : Int)) = (p1 : Int) := by rw [IntKind.wrap_i64]; omega
  have hw6 : IntKind.i64.wrap ((p1 : Int) - 1) = (p0 : Int) := by rw [IntKind.wrap_i64]; omega
  have hw7 : IntKind.i64.wrap ((p1 : Int) + 1) = (e1 : Int) := by rw [IntKind.wrap_i64]; omega
  have hw8 : IntKind.u64.wrap (m0 : Int) = (m0 : Int) := by rw [IntKind.wrap_u64]; omega
  have hm8 : 8 ≤ m0 := by omega
  have HR := Lib.hid (show a ≤ p0 ∧ e1 < b ∧ e2 = e1 + 1 ∧ m0 = b - a ∧ p0 ≤ e2 by omega)
  have cN := fun w => Lib.hid (nextPow_any m0 (by omega) (by omega) w)
  have hb0 : Below w.heap.size w (w.alloc (.cells #[.int .u64 (m0 : Int)] 115)) := (Below.refl _ _).alloc (Nat.le_refl _) _
  have HS : Hid (US w (w.alloc (.cells #[.int .u64 (m0 : Int)] 115)) g c n l l a b) := (US.start h hl a b).kept hb0
  have HX : Hid (∃ z : Int, (w.alloc (.cells #[.int .u64 (m0 : Int)] 115)).heap[w.heap.size]? = some (.cells #[.int .u64 z] 115 (0, 0))) := ⟨_, heap_alloc_new w _⟩
  have HG : Hid (g < w.heap.size) := h.lt
  have hm0n : m0 ≤ 80 := by omega
  clear h hl hm hq hq2 hp1 hp0 he1 he2 hb0 hab
  go_enter Try.func79, Try.ntmps79
  go_upto_region 3 with fail
  generalize w.alloc (.cells #[.int .u64 (m0 : Int)] 115) = w1 at *
  obtain ⟨s, hs⟩ : ∃ s, s = w.heap.size := ⟨_, rfl⟩
  rw [← hs] at HX HG
  simp only [← hs]
  have HSW := Lib.hid hs
  clear hs hw8
  go_upto_region 4 with (go_at_call 90; refine (cN _).out.mono ?_; rintro e w' ⟨M, rfl, rfl, hM1, hM2⟩)
  obtain ⟨M1, hM3⟩ : ∃ M1, M = M1 + 1 := ⟨M - 1, by omega⟩
  have hwM : IntKind.u64.wrap ((M : Int) - 1) = (M1 : Int) := by rw [IntKind.wrap_u64]; omega
  have HM := Lib.hid (show M1 < 2 * m0 by omega)
  clear hM1 hM2 hM3 cN
  go_upto_block 0 with fail
  clear hw6
  go_wp2_with fail
  go_loopg [9] (e2 - p0) (fun gk iv wr => ∃ (i : Nat) (L : List Nat), gk = e2 - i ∧ iv = .int .i64 (i : Int) ∧ p0 ≤ i ∧ i ≤ e2 ∧ Hid (US w wr g c n l L a b) ∧ Hid (∃ z : Int, wr.heap[s]? = some (.cells #[.int .u64 z] 115 (0, 0))))
  case atStart => exact ⟨p0, l, rfl, rfl, Nat.le_refl _, HR.out.2.2.2.2, HS, HX⟩
  case round =>
    obtain ⟨i, L, rfl, rfl, hi1, hi2, HS0, HX0⟩ := hrel
    clear HS HX
    by_cases hie : i ≤ e1
    · have hr := HR.out
      have hin : i < n := by omega
      have hia : a ≤ i := by omega
      have hib : i < b := by omega
      obtain ⟨z, hz⟩ := HX0.out
      have cX := Lib.hid (Next_any hz)
      have hwi : IntKind.i64.wrap ((i : Int) + 1) = ((i + 1 : Nat) : Int) := by rw [IntKind.wrap_i64]; omega
      clear hz hr
      have hM1b : M1 < 160 := by have := HM.out; omega
      go_upto_region 8 with (go_at_call 91; refine cX.out.mono ?_; rintro e w2 ⟨y, rfl, hy, hin2⟩; obtain ⟨m, hm1, hm2⟩ := and_le y M1 (by omega); have hwm : IntKind.i64.wrap (m : Int) = (m : Int) := by (rw [IntKind.wrap_i64]; omega))
      have HS2 : Hid (US w w2 g c n l L a b) := ⟨HS0.out.ow.into hin2 (by have := HG.out; simp only [List.mem_singleton]; omega), HS0.out.mv, ⟨hin2.os.trans HS0.out.hi.os, hin2.tape.trans HS0.out.hi.tape, hin2.output.trans HS0.out.hi.output, Nat.le_trans HS0.out.hi.size hin2.size, fun k hk hn => (hin2.block k (Nat.lt_of_lt_of_le hk HS0.out.hi.size) (by rw [← HSW.out] at hk; simp only [List.mem_singleton]; omega)).trans (HS0.out.hi.block k hk hn)⟩, HS0.out.le⟩
      have HX2 := Lib.hid hy
      have HMB := Lib.hid (show m < 2 * m0 by have := HM.out; omega)
      clear hy hin2 cX HS0 HX0 hm1
      clear hw2 hw3 hw4 hw5 hw7
      go_upto_if 43 with fail
      go_cut [10] (fun ov wx => ∃ m : Nat, ov = .int .i64 (m : Int) ∧ Hid (m < m0) ∧ Hid (US w wx g c n l L a b) ∧ Hid (∃ z : Int, wx.heap[s]? = some (.cells #[.int .u64 z] 115 (0, 0))))
      case first =>
        by_cases hmm : m0 ≤ m
        · obtain ⟨m2, hm2'⟩ : ∃ m2, m2 = m - m0 := ⟨_, rfl⟩
          have hws : IntKind.i64.wrap ((m : Int) - (m0 : Int)) = (m2 : Int) := by rw [IntKind.wrap_i64]; omega
          have HL : Hid (m2 < m0) := by have := HMB.out; unfold Hid; omega
          clear hm2'
          go_wp2_with fail
          go_meet
          exact ⟨m2, rfl, HL, HS2, HX2⟩
        · have HL : Hid (m < m0) := by unfold Hid; omega
          have hmm' : m < m0 := by omega
          go_wp2_with fail
          go_meet
          exact ⟨m, rfl, HL, HS2, HX2⟩
      case rest =>
      obtain ⟨m', rfl, HL, HS, HXS0⟩ := hcut
      clear HS2 HX2 HMB hwm hm2 hM1b
      obtain ⟨m, rfl⟩ : ∃ m, m = m' := ⟨_, rfl⟩
      have hr := HR.out
      have hlt := HL.out
      obtain ⟨fm, hfm⟩ : ∃ fm, fm = a + m := ⟨_, rfl⟩
      have hwf : IntKind.i64.wrap ((a : Int) + (m : Int)) = (fm : Int) := by rw [IntKind.wrap_i64]; omega
      have hfn : fm < n := by omega
      have hf1 : a ≤ fm := by omega
      have hf2 : fm < b := by omega
      have hi3 : i + 1 ≤ e2 := by omega
      have HXS : Hid (∀ (v6 : World) (x y : Value), Below wc.heap.size wc v6 → True = True → ∃ z : Int, ((v6.setCell ⟨g, i, none⟩ x).setCell ⟨g, fm, none⟩ y).heap[s]? = some (.cells #[.int .u64 z] 115 (0, 0))) := fun v6 x y hb _ => by
        obtain ⟨z, hz⟩ := HXS0.out
        have hgs : s ≠ g := by have := HG.out; omega
        exact ⟨z, (Below.heap_setCell _ _ _ _ hgs).trans ((Below.heap_setCell _ _ _ _ hgs).trans ((hb.block s (Array.getElem?_eq_some_iff.1 hz).1).trans hz))⟩
      clear hr hlt hfm HXS0
      by_cases hif : i = fm
      · subst hif
        go_upto_region 10 with fail
        have x0 := fun t : Drift.Tide [] wc [] => Drift.Tide.cell (HS.out.cell hin) (by simp) t
        have x1 := fun t : Drift.Tide [] wc [] => Drift.Tide.cell (HS.out.cell hin) (by simp) t
        refine Drift.wp_region_drift_late [] [(0,[]),(1,[]),(2,[]),(3,[]),(4,[]),(5,[]),(6,[]),(7,[]),(8,[]),(9,[]),(10,[]),(11,[]),(12,[]),(13,[]),(14,[]),(15,[]),(16,[])] [] [] [2, 3, 4, 5] (by kernel_rfl) (by kernel_rfl) (by simp) ?_
        simp only [Drift.pick, Drift.opsAt, List.getElem?_toArray, List.getElem?_cons_zero, List.getElem?_cons_succ, List.cons_append, List.nil_append, List.filterMap_nil]
        repeat (refine Drift.walk_step (fun K hK => ?_); go_simp; (refine hK _ ?_; clear hK K))
        refine Drift.walk_clear rfl (.slice (some ⟨g, 0, none⟩) n c) (fun W => by go_simp) ?_
        refine Drift.walk_clear rfl (.int .i64 (a : Int)) (fun W => by go_simp) ?_
        refine Drift.walk_clear rfl (.int .i64 (m : Int)) (fun W => by go_simp) ?_
        refine Drift.walk_clear rfl (.int .i64 (i : Int)) (fun W => by go_simp) ?_
        repeat (refine Drift.walk_step (fun K hK => ?_); go_simp; (refine hK _ ?_; clear hK K))
        refine Drift.walk_nil ?_
        intro w6 hb6 _
        clear x0 x1
        have h6 := HS.out.kept hb6
        have f := h6.free
        have e1 := h6.cell hin
        have e2 := h6.cell hin
        have H7 := Lib.hid (h6.swap hbn hia hib hia hib)
        have HX7 := Lib.hid (HXS.out w6 (.int .u32 ((gt L i : Nat) : Int)) (.int .u32 ((gt L i : Nat) : Int)) hb6 rfl)
        clear h6 hb6 HS
        simp only [List.length_cons, List.length_nil, List.drop_succ_cons, List.drop_zero, Nat.zero_add, Nat.reduceAdd]
        go_wp2_with fail
        (try rw [Flow.Nrm_normal])
        clear e1 e2 f
        generalize (w6.setCell ⟨g, i, none⟩ (.int .u32 ((gt L i : Nat) : Int))).setCell ⟨g, i, none⟩ (.int .u32 ((gt L i : Nat) : Int)) = w7 at *
        (try go_wp2_with fail)
        go_roundg (e2 - (i + 1))
        case measure => omega
        case rel => exact ⟨i + 1, _, rfl, by go_num, by omega, by omega, H7, HX7⟩
      · have hne : i ≠ fm := hif
        have hne' : fm ≠ i := fun e => hif e.symm
        go_upto_region 10 with fail
        have x0 := fun t : Drift.Tide [] wc [] => Drift.Tide.cell (HS.out.cell hin) (by simp) t
        have x1 := fun t : Drift.Tide [] wc [] => Drift.Tide.cell (HS.out.cell hfn) (by simp) t
        refine Drift.wp_region_drift_late [] [(0,[]),(1,[]),(2,[]),(3,[]),(4,[]),(5,[]),(6,[]),(7,[]),(8,[]),(9,[]),(10,[]),(11,[]),(12,[]),(13,[]),(14,[]),(15,[]),(16,[])] [] [] [2, 3, 4, 5] (by kernel_rfl) (by kernel_rfl) (by simp) ?_
        simp only [Drift.pick, Drift.opsAt, List.getElem?_toArray, List.getElem?_cons_zero, List.getElem?_cons_succ, List.cons_append, List.nil_append, List.filterMap_nil]
        repeat (refine Drift.walk_step (fun K hK => ?_); go_simp; (refine hK _ ?_; clear hK K))
        refine Drift.walk_clear rfl (.slice (some ⟨g, 0, none⟩) n c) (fun W => by go_simp) ?_
        refine Drift.walk_clear rfl (.int .i64 (a : Int)) (fun W => by go_simp) ?_
        refine Drift.walk_clear rfl (.int .i64 (m : Int)) (fun W => by go_simp) ?_
        refine Drift.walk_clear rfl (.int .i64 (fm : Int)) (fun W => by go_simp) ?_
        repeat (refine Drift.walk_step (fun K hK => ?_); go_simp; (refine hK _ ?_; clear hK K))
        refine Drift.walk_nil ?_
        intro w6 hb6 _
        clear x0 x1
        have h6 := HS.out.kept hb6
        have f := h6.free
        have e1 := h6.cell hin
        have e2 := h6.cell hfn
        have H7 := Lib.hid (h6.swap hbn hia hib hf1 hf2)
        have HX7 := Lib.hid (HXS.out w6 (.int .u32 ((gt L fm : Nat) : Int)) (.int .u32 ((gt L i : Nat) : Int)) hb6 rfl)
        clear h6 hb6 HS
        simp only [List.length_cons, List.length_nil, List.drop_succ_cons, List.drop_zero, Nat.zero_add, Nat.reduceAdd]
        go_wp2_with fail
        (try rw [Flow.Nrm_normal])
        clear e1 e2 f
        generalize (w6.setCell ⟨g, i, none⟩ (.int .u32 ((gt L fm : Nat) : Int))).setCell ⟨g, fm, none⟩ (.int .u32 ((gt L i : Nat) : Int)) = w7 at *
        (try go_wp2_with fail)
        go_roundg (e2 - (i + 1))
        case measure => omega
        case rel => exact ⟨i + 1, _, rfl, by go_num, by omega, by omega, H7, HX7⟩
    · have hie' : ¬ (i ≤ e1) := hie
      have hie2 : e1 < i := by omega
      go_wp2_with fail
      go_end0
      exact ⟨rfl, L, HS0.out⟩
end Pq
end Go.Proofs.Ytlcdjbleeanpbaa

namespace Go.Proofs.Ytlcdjbleeanpbaa
open Go.RowKit
namespace Pq
open Mem Hp
/-- where the sort stands: l was turned into L, of a0 to b0 only a to b are not in order yet -/
structure PQ (w wr : World) (g c n : Nat) (l L : List Nat) (a0 b0 a b : Nat) : Prop where
  us : US w wr g c n l L a0 b0
  re : Rest L a0 b0 a b
  bl : Blw L a b
  a0a : a0 ≤ a
  ab : a ≤ b
  bb0 : b ≤ b0
  b0n : b0 ≤ n
section
variable {w wr w' : World} {g c n a0 b0 a b : Nat} {l L L2 : List Nat}
theorem PQ.moved (h : PQ w wr g c n l L a0 b0 a b) (k : US wr w' g c n L L2 a b) : PQ w w' g c n l L2 a0 b0 a b := by
  have hb : b ≤ L.length := by rw [h.us.len]; exact Nat.le_trans h.bb0 h.b0n
  exact ⟨h.us.then_ (k.wide h.a0a h.bb0), h.re.moved k.mv hb h.a0a h.bb0, h.bl.moved k.mv hb, h.a0a, h.ab, h.bb0, h.b0n⟩
theorem PQ.kept (h : PQ w wr g c n l L a0 b0 a b) (hb : Below wr.heap.size wr w') : PQ w w' g c n l L a0 b0 a b := ⟨h.us.kept hb, h.re, h.bl, h.a0a, h.ab, h.bb0, h.b0n⟩
/-- the front goes: what is alike -/
theorem PQ.eq {m pv : Nat} (h : PQ w wr g c n l L a0 b0 a b) (k : US wr w' g c n L L2 a b) (e : EqParted L L2 a b pv m) (ha : 0 < a) (hp : gt L pv ≤ gt L (a - 1)) : PQ w w' g c n l L2 a0 b0 m b := by
  have h2 := h.moved k
  have hall : ∀ x, a ≤ x → x < b → gt L2 a ≤ gt L2 x := fun x h3 h4 => by
    have h5 := h2.bl ha x h3 h4
    have h6 := k.mv.out (a - 1) (.inl (by omega))
    rw [e.at_]
    omega
  have hmb := e.mb
  have ham := e.am
  refine ⟨h2.us, h2.re.same ham hmb e.lo e.hi hall, fun _ x h3 h4 => ?_, by have := h.a0a; omega, hmb, h.bb0, h.b0n⟩
  have h5 := e.lo (m - 1) (by omega) (by omega)
  have h6 := e.hi x h3 h4
  omega
/-- the left part is put in order -/
theorem PQ.left {m : Nat} {w2 : World} {L3 : List Nat} (h : PQ w wr g c n l L a0 b0 a b) (p : Parted L a b m) (k : US wr w2 g c n L L3 a m) (ho : Ord2 L3 a m) : PQ w w2 g c n l L3 a0 b0 (m + 1) b := by
  have hb : b ≤ L.length := by rw [h.us.len]; exact Nat.le_trans h.bb0 h.b0n
  have hmb := p.mb
  have h2 := h.moved (k.wide (Nat.le_refl _) (Nat.le_of_lt hmb))
  have p2 := p.movedL k.mv hb
  exact ⟨h2.us, h2.re.left p2 ho, fun _ x h3 h4 => p2.hi x (by omega) h4, by have := h.a0a; have := p.am; omega, by omega, h.bb0, h.b0n⟩
theorem PQ.right {m : Nat} {w2 : World} {L3 : List Nat} (h : PQ w wr g c n l L a0 b0 a b) (p : Parted L a b m) (k : US wr w2 g c n L L3 (m + 1) b) (ho : Ord2 L3 (m + 1) b) : PQ w w2 g c n l L3 a0 b0 a m := by
  have hb : b ≤ L.length := by rw [h.us.len]; exact Nat.le_trans h.bb0 h.b0n
  have ham := p.am
  have hmb := p.mb
  have h2 := h.moved (k.wide (by omega) (Nat.le_refl _))
  have p2 := p.movedR k.mv hb
  exact ⟨h2.us, h2.re.right p2 ho, fun h0 x h3 h4 => h2.bl h0 x h3 (by omega), h.a0a, ham, by have := h.bb0; omega, h.b0n⟩
theorem PQ.blL {m : Nat} (h : PQ w wr g c n l L a0 b0 a b) (p : Parted L a b m) : Blw L a m := fun h0 x h3 h4 => h.bl h0 x h3 (by have := p.mb; omega)
theorem PQ.blR {m : Nat} (_ : PQ w wr g c n l L a0 b0 a b) (p : Parted L a b m) : Blw L (m + 1) b := fun _ x h3 h4 => by
  rw [Nat.add_sub_cancel]
  exact p.hi x (by omega) h4
end
def PdqOk (N : Nat) : Prop := ∀ (w : World) (g c n a b : Nat) (z : Int) (l : List Nat), Ow 38 w g c (l.map nV) → l.length = n → a ≤ b → b ≤ n → n ≤ 80 → b - a = N → Blw l a b → Calls Try.prog 74 #[.slice (some ⟨g, 0, none⟩) n c, .int .i64 (a : Int), .int .i64 (b : Int), .int .i64 z] w fun e w' => e = .returned (.tuple #[]) ∧ ∃ L, US w w' g c n l L a b ∧ Ord2 L a b
set_option maxRecDepth 100000 in
set_option maxHeartbeats 4000000 in
theorem pdq_step (N : Nat) (ih : ∀ m, m < N → PdqOk m) : PdqOk N := by
  intro w g c n a0 b0 z0 l h hl hab0 hb0n hn hN hblw
  have H0 : Hid (PQ w w g c n l l a0 b0 a0 b0) := ⟨US.start h hl a0 b0, Rest.start l a0 b0, hblw, Nat.le_refl _, hab0, Nat.le_refl _, hb0n⟩
  have IH : Hid (∀ m, m < N → PdqOk m) := ih
  have HN := Lib.hid hN
  have hb80 : b0 ≤ 80 := by omega
  clear h hl hblw ih hN
  go_enter Try.func74, Try.ntmps74
  go_wp2_with fail
  go_loopg [1, 2, 3, 8, 9] (b0 - a0) (fun gk av bv zv xv yv wr => ∃ (a b : Nat) (z : Int) (x y : Bool) (L : List Nat), gk = b - a ∧ av = .int .i64 (a : Int) ∧ bv = .int .i64 (b : Int) ∧ zv = .int .i64 z ∧ xv = .bool x ∧ yv = .bool y ∧ Hid (PQ w wr g c n l L a0 b0 a b))
  case atStart => exact ⟨a0, b0, z0, true, true, l, rfl, rfl, rfl, rfl, rfl, rfl, H0⟩
  case round =>
    obtain ⟨a, b, z, x, y, L, rfl, rfl, rfl, rfl, rfl, rfl, HQ⟩ := hrel
    clear H0
    have hq := HQ.out
    have hab := hq.ab
    have hbb0 := hq.bb0
    have ha0a := hq.a0a
    have hbn : b ≤ n := Nat.le_trans hbb0 hb0n
    clear hq
    obtain ⟨m0, hm0⟩ : ∃ m, m = b - a := ⟨_, rfl⟩
    have hwl : IntKind.i64.wrap ((b : Int) - (a : Int)) = (m0 : Int) := by rw [IntKind.wrap_i64]; omega
    have HM0 := Lib.hid hm0
    clear hm0
    by_cases h12 : m0 ≤ 12
    · have cI := Lib.hid (insertion_any HQ.out.us.ow HQ.out.us.len hab hbn (by omega))
      go_wp2_with (go_at_call 77; refine cI.out.mono ?_; rintro e w2 ⟨rfl, L2, h1, h2⟩)
      exact bodyPost_ret (results_none rfl _ _ _) rfl ⟨rfl, L2, (HQ.out.moved h1).us, (HQ.out.moved h1).re.done h2.ord⟩
    have h12' : 12 < m0 := by omega
    by_cases hz : z = 0
    · subst hz
      have cI := Lib.hid (heapSort_any HQ.out.us.ow HQ.out.us.len hab hbn (by omega))
      go_wp2_with (go_at_call 78; refine cI.out.mono ?_; rintro e w2 ⟨rfl, L2, h1, h2⟩)
      exact bodyPost_ret (results_none rfl _ _ _) rfl ⟨rfl, L2, (HQ.out.moved h1).us, (HQ.out.moved h1).re.done h2.ord⟩
    have hz' : (z == 0) = false := by simpa using hz
    have h12a : a + 12 < b := by have := HM0.out; omega
    have hn1000 : n ≤ 1000 := by omega
    go_upto_if 35 with fail
    clear hwl hz hz' h12
    go_cut [3] (fun zv wx => ∃ (z : Int) (L : List Nat), zv = .int .i64 z ∧ Hid (PQ w wx g c n l L a0 b0 a b))
    case first =>
      cases x with
      | true =>
        go_wp2_with fail
        go_meet
        exact ⟨z, L, rfl, HQ⟩
      | false =>
        have cI := Lib.hid (break_any HQ.out.us.ow HQ.out.us.len h12a hbn hn)
        go_wp2_with (go_at_call 79; refine cI.out.mono ?_; rintro e w2 ⟨rfl, L2, h1⟩)
        have HQ2 := Lib.hid (HQ.out.moved h1)
        clear h1 cI HQ
        go_wp2_with fail
        go_meet
        exact ⟨_, L2, rfl, HQ2⟩
    case rest =>
    clear HQ L z
    obtain ⟨z, L, rfl, HQ⟩ := hcut
    have cP := Lib.hid (choosePivot_any HQ.out.us.ow HQ.out.us.len h12a hbn hn1000)
    go_upto_region 11 with (go_at_call 80; refine cP.out.mono ?_; rintro e w2 ⟨pv, hint, rfl, hh, hp1, hp2, hb2⟩)
    have HQ2 := Lib.hid (HQ.out.kept hb2)
    clear HQ cP hb2
    go_upto_if 50 with fail
    go_cut [11, 12] (fun pvv hv wx => ∃ (pv : Nat) (hint : Int) (L : List Nat), pvv = .int .i64 (pv : Int) ∧ hv = .int .i64 hint ∧ a ≤ pv ∧ pv < b ∧ Hid (hint = 0 ∨ hint = 1) ∧ Hid (PQ w wx g c n l L a0 b0 a b))
    case first =>
      by_cases h2 : hint = 2
      · subst h2
        obtain ⟨b1, hb1⟩ : ∃ b1, b1 = b - 1 := ⟨_, rfl⟩
        obtain ⟨d1, hd1⟩ : ∃ d, d = pv - a := ⟨_, rfl⟩
        obtain ⟨pv2, hpv2⟩ : ∃ p, p = b1 - d1 := ⟨_, rfl⟩
        have hw1 : IntKind.i64.wrap ((b : Int) - 1) = (b1 : Int) := by rw [IntKind.wrap_i64]; omega
        have hw2 : IntKind.i64.wrap ((pv : Int) - (a : Int)) = (d1 : Int) := by rw [IntKind.wrap_i64]; omega
        have hw3 : IntKind.i64.wrap ((b1 : Int) - (d1 : Int)) = (pv2 : Int) := by rw [IntKind.wrap_i64]; omega
        have cR := Lib.hid (reverse_any HQ2.out.us.ow HQ2.out.us.len (show a < b by omega) hbn hn1000)
        have HP3 := Lib.hid (show a ≤ pv2 ∧ pv2 < b by omega)
        clear hb1 hd1 hpv2 hh
        go_wp2_with (go_at_call 81; refine cR.out.mono ?_; rintro e w3 ⟨rfl, L3, h3⟩)
        have HQ3 := Lib.hid (HQ2.out.moved h3)
        clear h3 cR HQ2
        go_wp2_with fail
        go_meet
        exact ⟨pv2, 1, L3, rfl, rfl, HP3.out.1, HP3.out.2, Lib.hid (.inr rfl), HQ3⟩
      · have h2' : (hint == 2) = false := by simpa using h2
        have HH : Hid (hint = 0 ∨ hint = 1) := by unfold Hid; omega
        clear hh h2
        go_wp2_with fail
        go_meet
        exact ⟨pv, hint, L, rfl, rfl, hp1, hp2, HH, HQ2⟩
    case rest =>
    clear HQ2 hh hp1 hp2 L
    obtain ⟨pv2, hint2, L, rfl, rfl, hp1, hp2, HH, HQ⟩ := hcut
    obtain ⟨pv, rfl⟩ : ∃ pv, pv = pv2 := ⟨_, rfl⟩
    go_upto_region 15 with fail
    go_cut [68] (fun tv wx => (∃ t : Bool, tv = .bool t) ∧ Hid (PQ w wx g c n l L a0 b0 a b))
    case first =>
      have HQ1 := HQ
      clear HQ
      rcases HH.out with h | h
      · subst h
        cases x with
        | true =>
          cases y with
          | true =>
            go_wp2_with fail
            go_meet
            exact ⟨⟨_, rfl⟩, HQ1⟩
          | false =>
            go_wp2_with fail
            go_meet
            exact ⟨⟨_, rfl⟩, HQ1⟩
        | false =>
          go_wp2_with fail
          go_meet
          exact ⟨⟨_, rfl⟩, HQ1⟩
      · subst h
        cases x with
        | true =>
          cases y with
          | true =>
            go_wp2_with fail
            go_meet
            exact ⟨⟨_, rfl⟩, HQ1⟩
          | false =>
            go_wp2_with fail
            go_meet
            exact ⟨⟨_, rfl⟩, HQ1⟩
        | false =>
          go_wp2_with fail
          go_meet
          exact ⟨⟨_, rfl⟩, HQ1⟩
    case rest =>
    obtain ⟨⟨t1, rfl⟩, HQ'⟩ := hcut
    clear HQ HH
    go_upto_if 68 with fail
    go_cut [11] (fun pvv wx => ∃ (L : List Nat), pvv = .int .i64 (pv : Int) ∧ Hid (PQ w wx g c n l L a0 b0 a b))
    case first =>
      cases t1 with
      | false =>
        go_wp2_with fail
        go_meet
        exact ⟨L, rfl, HQ'⟩
      | true =>
        have cI := Lib.hid (partial_any HQ'.out.us.ow HQ'.out.us.len h12a hbn hn1000 HQ'.out.bl)
        go_upto_if 72 with (go_at_call 82; refine cI.out.mono ?_; rintro e w2 ⟨t2, L2, rfl, h1, h2⟩)
        have HQ2 := Lib.hid (HQ'.out.moved h1)
        have HT := Lib.hid h2
        clear h1 h2 cI HQ'
        cases t2 with
        | true =>
          go_wp2_with fail
          exact bodyPost_ret (results_none rfl _ _ _) rfl ⟨rfl, L2, HQ2.out.us, HQ2.out.re.done (HT.out trivial).ord⟩
        | false =>
          go_wp2_with fail
          go_meet
          exact ⟨L2, rfl, HQ2⟩
    case rest =>
    clear HQ' L
    obtain ⟨L, rfl, HQ⟩ := hcut
    go_upto_region 17 with fail
    go_cut [87] (fun tv wx => ∃ t : Bool, tv = .bool t ∧ Hid (t = true → 0 < a ∧ gt L pv ≤ gt L (a - 1)) ∧ Hid (PQ w wx g c n l L a0 b0 a b))
    case first =>
      rcases Nat.eq_zero_or_pos a with h0 | h0
      · subst h0
        go_quiet (fail)
        have HQ2 := Lib.hid (HQ.out.kept (below_dn _ nq))
        clear HQ
        go_wp2_with fail
        go_meet
        exact ⟨false, rfl, Lib.hid (fun h => by cases h), HQ2⟩
      · obtain ⟨a1, ha1⟩ : ∃ a1, a1 = a - 1 := ⟨_, rfl⟩
        have hw1 : IntKind.i64.wrap ((a : Int) - 1) = (a1 : Int) := by rw [IntKind.wrap_i64]; omega
        have ha1n : a1 < n := by omega
        have hpn : pv < n := by omega
        have d1 := HQ.out.us.cell ha1n
        have d2 := HQ.out.us.cell hpn
        have HA1 := Lib.hid ha1
        clear ha1
        by_cases hxy : gt L a1 < gt L pv
        · have cL := fun w => Lib.hid (Less_is (t := true) (x := gt L a1) (y := gt L pv) (by simpa using hxy) w)
          clear hxy
          go_quiet ((go_at_call 83; exact Calls.quiet_of_same ((cL _).out.mono fun e w' ⟨he, hw⟩ => ⟨he, hw.symm⟩)))
          have HQ2 := Lib.hid (HQ.out.kept (below_dn _ nq))
          clear HQ d1 d2
          go_wp2_with fail
          go_meet
          exact ⟨false, rfl, Lib.hid (fun h => by cases h), HQ2⟩
        · have cL := fun w => Lib.hid (Less_is (t := false) (x := gt L a1) (y := gt L pv) (by simpa using hxy) w)
          have HX : Hid (0 < a ∧ gt L pv ≤ gt L (a - 1)) := ⟨h0, by rw [← HA1.out]; omega⟩
          clear hxy
          go_quiet ((go_at_call 83; exact Calls.quiet_of_same ((cL _).out.mono fun e w' ⟨he, hw⟩ => ⟨he, hw.symm⟩)))
          have HQ2 := Lib.hid (HQ.out.kept (below_dn _ nq))
          clear HQ d1 d2
          go_wp2_with fail
          go_meet
          exact ⟨true, rfl, Lib.hid (fun _ => HX.out), HQ2⟩
    case rest =>
    obtain ⟨t, rfl, HT, HQ2⟩ := hcut
    clear HQ
    have HQ := HQ2
    clear HQ2
    cases t with
    | true =>
      have HT2 : Hid (0 < a ∧ gt L pv ≤ gt L (a - 1)) := HT.out rfl
      have cE := Lib.hid (partEq_any HQ.out.us.ow HQ.out.us.len hp1 hp2 hbn hn1000)
      clear HT
      go_wp2_with (go_at_call 84; refine cE.out.mono ?_; rintro e w2 ⟨m, rfl, L2, h1, h2⟩)
      have HQ3 := Lib.hid (HQ.out.eq h1 h2 HT2.out.1 HT2.out.2)
      have HM := Lib.hid (show a < m ∧ m ≤ b from ⟨h2.am, h2.mb⟩)
      clear h1 h2 cE HQ HT2
      go_wp2_with fail
      go_roundg (b - m)
      case measure => have := HM.out; omega
      case rel => exact ⟨m, b, z, x, y, L2, rfl, rfl, rfl, rfl, rfl, rfl, HQ3⟩
    | false =>
      clear HT
      have cE := Lib.hid (partition_any HQ.out.us.ow HQ.out.us.len hp1 hp2 hbn hn1000)
      go_upto_region 21 with (go_at_call 85; refine cE.out.mono ?_; rintro e w2 ⟨m, tp, rfl, L2, h1, h2⟩)
      have HQ3 := Lib.hid (HQ.out.moved h1)
      have HPA := Lib.hid h2
      have ham := h2.am
      have hmb := h2.mb
      clear h1 h2 cE HQ
      obtain ⟨ll, hll⟩ : ∃ d, d = m - a := ⟨_, rfl⟩
      obtain ⟨rl, hrl⟩ : ∃ d, d = b - m := ⟨_, rfl⟩
      obtain ⟨th, hth⟩ : ∃ d, d = m0 / 8 := ⟨_, rfl⟩
      obtain ⟨m1, hm1⟩ : ∃ d, d = m + 1 := ⟨_, rfl⟩
      have hw1 : IntKind.i64.wrap ((m : Int) - (a : Int)) = (ll : Int) := by rw [IntKind.wrap_i64]; omega
      have hw2 : IntKind.i64.wrap ((b : Int) - (m : Int)) = (rl : Int) := by rw [IntKind.wrap_i64]; omega
      have hw3 : (m0 : Int).tdiv 8 = (th : Int) := by rw [Int.tdiv_eq_ediv_of_nonneg (by omega)]; omega
      have hw4 : IntKind.i64.wrap (th : Int) = (th : Int) := by rw [IntKind.wrap_i64]; have := HM0.out; omega
      have hw5 : IntKind.i64.wrap ((m : Int) + 1) = (m1 : Int) := by rw [IntKind.wrap_i64]; omega
      have HE := Lib.hid (show ll = m - a ∧ rl = b - m ∧ m1 = m + 1 from ⟨hll, hrl, hm1⟩)
      clear hll hrl hth hm1
      by_cases hlr : ll < rl
      · have cI : Hid (Calls Try.prog 74 #[.slice (some ⟨g, 0, none⟩) n c, .int .i64 (a : Int), .int .i64 (m : Int), .int .i64 z] w2 fun e w' => e = .returned (.tuple #[]) ∧ ∃ L, US w2 w' g c n L2 L a m ∧ Ord2 L a m) := IH.out (m - a) (by have := HN.out; omega) w2 g c n a m z L2 HQ3.out.us.ow HQ3.out.us.len ham (by omega) hn rfl (HQ3.out.blL HPA.out)
        go_wp2_with (go_at_call 74; refine cI.out.mono ?_; rintro e w3 ⟨rfl, L3, h1, h2⟩)
        have HQ4 : Hid (PQ w w3 g c n l L3 a0 b0 m1 b) := by
          rw [HE.out.2.2]
          exact HQ3.out.left HPA.out h1 h2
        clear h1 h2 cI HQ3
        go_wp2_with fail
        go_roundg (b - m1)
        case measure => have := HE.out; omega
        case rel => exact ⟨m1, b, z, _, tp, L3, rfl, rfl, rfl, rfl, rfl, rfl, HQ4⟩
      · have hlr' : rl ≤ ll := by omega
        have cI : Hid (Calls Try.prog 74 #[.slice (some ⟨g, 0, none⟩) n c, .int .i64 (m1 : Int), .int .i64 (b : Int), .int .i64 z] w2 fun e w' => e = .returned (.tuple #[]) ∧ ∃ L, US w2 w' g c n L2 L m1 b ∧ Ord2 L m1 b) := IH.out (b - m1) (by have := HN.out; have := HE.out; omega) w2 g c n m1 b z L2 HQ3.out.us.ow HQ3.out.us.len (by have := HE.out; omega) hbn hn rfl (by rw [HE.out.2.2]; exact HQ3.out.blR HPA.out)
        go_wp2_with (go_at_call 74; refine cI.out.mono ?_; rintro e w3 ⟨rfl, L3, h1, h2⟩)
        have HQ4 : Hid (PQ w w3 g c n l L3 a0 b0 a m) := by
          rw [HE.out.2.2] at h1 h2
          exact HQ3.out.right HPA.out h1 h2
        clear h1 h2 cI HQ3
        go_wp2_with fail
        go_roundg (m - a)
        case measure => omega
        case rel => exact ⟨a, m, z, _, tp, L3, rfl, rfl, rfl, rfl, rfl, rfl, HQ4⟩
theorem pdq_any (N : Nat) : PdqOk N := Nat.strongRecOn N pdq_step
end Pq
end Go.Proofs.Ytlcdjbleeanpbaa

namespace Go.Proofs.Ytlcdjbleeanpbaa
open Go.RowKit
namespace Pq
open Mem Hp
set_option maxRecDepth 100000 in
set_option maxHeartbeats 4000000 in
theorem Sort_any {w : World} {g c n : Nat} {l : List Nat} (h : Ow 38 w g c (l.map nV)) (hl : l.length = n) (h1 : 1 ≤ n) (hn : n ≤ 80) : Calls Try.prog 68 #[.slice (some ⟨g, 0, none⟩) n c] w fun e w' => e = .returned (.tuple #[]) ∧ ∃ L, US w w' g c n l L 0 n ∧ Ord2 L 0 n := by
  have cL := fun w => Lib.hid (Len_small n h1 hn w)
  have cP := fun z => Lib.hid (pdq_any n w g c n 0 n z l h hl (Nat.zero_le _) (Nat.le_refl _) hn rfl (fun h0 => by omega))
  have hw1 : IntKind.u64.wrap (n : Int) = (n : Int) := by rw [IntKind.wrap_u64]; omega
  clear h hl h1 hn
  go_enter Try.func68, Try.ntmps68
  go_wp2_with (first
    | (go_at_call 75; refine (cL _).out.mono ?_; rintro e w' ⟨z, rfl, rfl, -, -, -⟩)
    | (go_at_call 74; refine (cP _).out.mono ?_; rintro e w2 ⟨rfl, L, h1, h2⟩))
  go_end0
  exact ⟨rfl, L, h1, h2⟩
end Pq
end Go.Proofs.Ytlcdjbleeanpbaa
