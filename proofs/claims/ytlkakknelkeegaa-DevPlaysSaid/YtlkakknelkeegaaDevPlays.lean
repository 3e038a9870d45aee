/-
  DevPlays, walked.
-/
import Derived.Test.YtlkakknelkeegaaDevPair
namespace Go.Proofs.Ytlkakknelkeegaa
open Go.RowKit
namespace Dv
open Mem

set_option maxHeartbeats 4000000 in
set_option maxRecDepth 100000 in
theorem DevPlays_out (n m : Int) (v : Value) (w : World) (h : ¬ (5 ≤ n ∧ n ≤ 65536 ∧ 1 ≤ m ∧ m ≤ 65536)) :
    Calls Try.prog 3 #[.int .i64 n, .int .i64 m, v] w fun e w' => e = .returned (.bool true) ∧ Below w.heap.size w w' := by
  have cA := fun w => Lib.hid (awake_any w)
  have cR := fun w => Lib.hid (Right_no n m w h)
  have cN := fun w => Lib.hid (New_out n m w (fun hh => h ⟨hh.1.1, hh.1.2, hh.2.1, hh.2.2⟩))
  clear h
  go_enter Try.func3, Try.ntmps3
  go_wp2_with (first
    | (go_at_call 7; refine (cR _).out.mono ?_; rintro e w' ⟨rfl, rfl⟩)
    | (go_at_call 10; refine (cN _).out.mono ?_; rintro e w' ⟨rfl, rfl⟩)
    | (go_at_call 9; refine (cA _).out.mono ?_; rintro e w' ⟨rfl, hb⟩; have HB := Lib.hid hb; clear hb))
  go_ret
  exact ⟨rfl, HB.out⟩
set_option maxHeartbeats 4000000 in
set_option maxRecDepth 100000 in
theorem DevPlays_great (n m : Int) (v : Value) (w : World) (h : 5 ≤ n ∧ n ≤ 65536 ∧ 1 ≤ m ∧ m ≤ 65536) (h2 : ¬ (n ≤ 60 ∧ m ≤ 200)) :
    Calls Try.prog 3 #[.int .i64 n, .int .i64 m, v] w fun e w' => e = .returned (.bool true) ∧ Below w.heap.size w w' := by
  have cA := fun w => Lib.hid (awake_any w)
  have cR := fun w => Lib.hid (Right_yes n m w h)
  have cL := fun w => Lib.hid (light_no n m w h2)
  clear h h2
  go_enter Try.func3, Try.ntmps3
  go_wp2_with (first
    | (go_at_call 7; refine (cR _).out.mono ?_; rintro e w' ⟨rfl, rfl⟩)
    | (go_at_call 8; refine (cL _).out.mono ?_; rintro e w' ⟨rfl, rfl⟩)
    | (go_at_call 9; refine (cA _).out.mono ?_; rintro e w' ⟨rfl, hb⟩; have HB := Lib.hid hb; clear hb))
  go_ret
  exact ⟨rfl, HB.out⟩

def EvPict (N : Nat) (l : List UInt8) (v : Value) (w : World) : Prop := ∃ q, v = .slice (some ⟨q, 0, none⟩) N N ∧ Row 5 w q l
set_option maxHeartbeats 8000000 in
set_option maxRecDepth 100000 in
theorem DevPlays_in (n m : Nat) (q0 : Option Addr) (d0 : Nat) (ac : List (Int × Nat × List UInt8)) (w : World) (n1 : 5 ≤ n) (n2 : n ≤ 60) (m1 : 1 ≤ m) (m2 : m ≤ 200) (ha : ActL w q0 ac) (hda : ac.length ≤ maxLen) :
    Calls Try.prog 3 #[.int .i64 (n : Int), .int .i64 (m : Int), .slice q0 ac.length d0] w fun e w' => e = .returned (.bool true) ∧ Below w.heap.size w w' := by
  have cA := fun w => Lib.hid (awake_any w)
  have cR := fun w => Lib.hid (Right_yes (n : Int) (m : Int) w ⟨by omega, by omega, by omega, by omega⟩)
  have cL := fun w => Lib.hid (light_yes (n : Int) (m : Int) w (by omega) (by omega))
  have cN := Lib.hid (New_mk (Below.refl w.heap.size w) n m n1 (by omega) m1 (by omega))
  have cG := fun w => Lib.hid (RNew_any n m w (by omega) (by omega) (by omega))
  obtain ⟨M, hM⟩ : ∃ M, M = n * m := ⟨_, rfl⟩
  have hM2 : M ≤ 12000 := by rw [hM]; exact Nat.mul_le_mul n2 m2
  have HM := Lib.hid hM
  unfold maxLen at hda
  obtain ⟨N, hN⟩ : ∃ N, N = ac.length := ⟨_, rfl⟩
  rw [← hN] at hda ⊢
  have HNN := Lib.hid hN
  have HAL := Lib.hid ha
  generalize List.replicate n (List.replicate m (0 : UInt8)) = ls0 at *
  clear hN ha hM
  go_enter Try.func3, Try.ntmps3
  go_upto_region 9 with (first
    | (go_at_call 7; refine (cR _).out.mono ?_; rintro e w' ⟨rfl, rfl⟩)
    | (go_at_call 8; refine (cL _).out.mono ?_; rintro e w' ⟨rfl, rfl⟩)
    | (go_at_call 10; refine cN.out.mono ?_; rintro e w1 ⟨g, S, rfl, hd, -, -⟩; have HD1 := Lib.hid hd; clear hd)
    | (go_at_call 11; refine (cG _).out.mono ?_; rintro e w2 ⟨⟨h, c, rfl, hR, hh⟩, hb⟩; have HR2 := Lib.hid hR; have HH2 := Lib.hid hh; have HD2 := Lib.hid (HD1.out.kept hb); clear hR hb hh))
  have HP3 : Hid (Pe w (w2.alloc (.cells #[.int .i64 (m : Int), .slice (some ⟨h, 0, none⟩) n c, .int .i64 0, .int .i64 0] 31)) S g w2.heap.size h c m n ls0 0 0 ls0 0 0) := by
    have hb : Below w2.heap.size w2 (w2.alloc (.cells #[.int .i64 (m : Int), .slice (some ⟨h, 0, none⟩) n c, .int .i64 0, .int .i64 0] 31)) := (Below.refl _ _).alloc (Nat.le_refl _) _
    have h1 := HR2.out.lt
    refine ⟨HD2.out.kept hb, HR2.out.kept hb, Box.new w2 _ _ _ _, fun hk => ?_, fun hk => ?_, by omega, ?_, HD2.out.size⟩
    · have := HD1.out.dv.lt _ hk; have := HH2.out; omega
    · have := HD2.out.dv.lt _ hk; omega
    · exact Nat.le_trans HD1.out.size HH2.out
  generalize w2.alloc (.cells #[.int .i64 (m : Int), .slice (some ⟨h, 0, none⟩) n c, .int .i64 0, .int .i64 0] 31) = w3 at *
  obtain ⟨bw, hbw⟩ : ∃ bw, bw = w2.heap.size := ⟨_, rfl⟩
  rw [← hbw] at HP3
  simp only [← hbw]
  clear hbw cR cL cN cG HD1 HR2 HH2 HD2
  go_upto_region 10 with fail
  go_loopg [7, 10] N (fun gk dv i wr => ∃ (k g h c : Nat) (S : List Nat) (ls : List (List UInt8)) (r s : Nat), k ≤ N ∧ k ≤ 40 ∧ r ≤ k ∧ s ≤ k ∧ gk = N - k ∧ i = .int .i64 k ∧ dv = .pointer (some ⟨g, 0, none⟩) ∧ Hid (Pe w wr S g bw h c m n ls r s ls r s))
  case atStart => exact ⟨0, g, h, c, S, ls0, 0, 0, Nat.zero_le _, Nat.zero_le _, Nat.le_refl _, Nat.le_refl _, rfl, rfl, rfl, HP3⟩
  case round =>
    obtain ⟨k, g, h, c, S, ls, r, s, hk, hk4, hr, hs, rfl, rfl, rfl, HP⟩ := hrel
    clear HP3
    by_cases hlt : k < N ∧ k < 40
    · obtain ⟨k1, k2⟩ := hlt
      obtain ⟨ab, o, x, rfl, hx⟩ := HAL.out.at_ (show k < ac.length by rw [← HNN.out]; exact k1)
      obtain ⟨kd, I, bs⟩ := x
      have HX := Lib.hid hx
      have hx' := hx.kept HP.out.dw.bel
      obtain ⟨B, c2, hc2, hbl0, hbc⟩ := hx'.bs
      have hc0 := hx'.kd
      have hc1 := hx'.at_
      have hI32 := hx'.lt
      simp only at hc0 hc1 hc2 hbl0 hbc hI32
      have hB : 0 < bs.length → ∀ a, B = some a → a.block < w.heap.size := fun h0 a ha => by
        obtain ⟨B', c2', h1, h2, _⟩ := hx.bs
        simp only at h1 h2
        have h3 := cell_after HP.out.dw.bel h1
        rw [hc2] at h3
        obtain ⟨rfl, -, -⟩ : B = B' ∧ bs.length = bs.length ∧ c2 = c2' := by simpa using h3
        exact h2.lt h0 a ha
      have HBW := Lib.hid hB
      have HBLW : Hid (BL w B bs) := by
        obtain ⟨B', c2', h1, h2, _⟩ := hx.bs
        simp only at h1 h2
        have h3 := cell_after HP.out.dw.bel h1
        rw [hc2] at h3
        obtain ⟨rfl, -, -⟩ : B = B' ∧ bs.length = bs.length ∧ c2 = c2' := by simpa using h3
        exact h2
      clear hx hx' hbl0 hB
      go_upto_region 13 with fail
      have hb4 : Below wr.heap.size wr (wr.alloc (.cells #[.int .i64 kd, .int .u32 (I : Int), .slice B bs.length c2] 36)) := (Below.refl _ _).alloc (Nat.le_refl _) _
      have HA4 := Lib.hid (ABox.new wr kd I B bs.length c2)
      have HP4 := Lib.hid (HP.out.kept hb4)
      generalize wr.alloc (.cells #[.int .i64 kd, .int .u32 (I : Int), .slice B bs.length c2] 36) = w4 at *
      obtain ⟨ba, hba⟩ : ∃ ba, ba = wr.heap.size := ⟨_, rfl⟩
      rw [← hba] at HA4
      simp only [← hba]
      have HNA : Hid (ba ∉ S ∧ ba ≠ bw) := ⟨fun hk => by have := HP.out.dw.dv.lt _ hk; omega, by have := HP.out.bx.lt; omega⟩
      clear hc0 hc1 hc2 hb4 hba HP
      obtain ⟨a0, a1, a2⟩ := HA4.out.facts
      go_upto_block 2 with fail
      go_cut [7, 12] (fun dv ok wx => ∃ (g' h' c' : Nat) (S' : List Nat) (ls' : List (List UInt8)) (r' s' : Nat), dv = .pointer (some ⟨g', 0, none⟩) ∧ ok = .bool true ∧ r' ≤ k + 1 ∧ s' ≤ k + 1 ∧ Hid (Pe w wx S' g' bw h' c' m n ls' r' s' ls' r' s'))
      case first =>
        by_cases kd0 : kd = 0
        · subst kd0
          obtain ⟨⟨x0, x1, x2, x3⟩, -⟩ := HP4.out.bx.facts
          have hcv := run_text (P := Try.prog) Try.underlying34 Try.underlying5 Try.underlying9 (HBLW.out.below HP4.out.dw.bel) c2
          have cW := Lib.hid (RPut HP4.out.rf m r s I bs hI32 (by omega))
          go_upto_region 18 with (go_at_call 12; refine cW.out.mono ?_; rintro e w5 ⟨h', c', rfl, hR, hh, hb⟩; have HR5 := Lib.hid hR; have HH5 := Lib.hid hh; have HB5 := Lib.hid hb; clear hR hh hb)
          have hb6 : Below w5.heap.size w5 (w5.alloc (.cells #[.int .i64 (m : Int), .slice (some ⟨h', 0, none⟩) n c', .int .i64 (r : Int), .int .i64 ((wrS ls m I bs s : Nat) : Int)] 31)) := (Below.refl _ _).alloc (Nat.le_refl _) _
          have hx13 := Box.new w5 (.int .i64 (m : Int)) (.slice (some ⟨h', 0, none⟩) n c') (.int .i64 (r : Int)) (.int .i64 ((wrS ls m I bs s : Nat) : Int))
          have HR6 := Lib.hid (HR5.out.kept hb6)
          have HB6 := Lib.hid (HB5.out.trans (hb6.mono HB5.out.size))
          generalize w5.alloc (.cells #[.int .i64 (m : Int), .slice (some ⟨h', 0, none⟩) n c', .int .i64 (r : Int), .int .i64 ((wrS ls m I bs s : Nat) : Int)] 31) = w6 at *
          have HA6 := Lib.hid (HA4.out.kept HB6.out)
          obtain ⟨⟨y0, y1, y2, y3⟩, -⟩ := hx13.facts
          obtain ⟨⟨v0, v1, v2, v3⟩, f0, f1, f2, f3⟩ := (HP4.out.bx.kept HB6.out).facts
          have hT := HP4.out.turn HB6.out HR6.out HH5.out r (wrS ls m I bs s)
          have HT := Lib.hid hT
          clear hb6 hx13 x0 x1 x2 x3 hcv hT
          go_upto_region 19 with fail
          have hT := HT.out
          clear HT
          generalize (((w6.setCell ⟨bw, 0, none⟩ (.int .i64 (m : Int))).setCell ⟨bw, 1, none⟩ (.slice (some ⟨h', 0, none⟩) n c')).setCell ⟨bw, 2, none⟩ (.int .i64 (r : Int))).setCell ⟨bw, 3, none⟩ (.int .i64 ((wrS ls m I bs s : Nat) : Int)) = w7 at *
          have HP7 := Lib.hid hT.1
          obtain ⟨-, a1', a2'⟩ := (HA6.out.into hT.2 (by simpa using HNA.out.2)).facts
          have cP := Lib.hid (HP7.out.dw.Put I (by omega) B c2 bs (HBLW.out.below HP7.out.dw.bel) (fun h0 a ha hk => by
            have e1 := HBW.out h0 a ha
            have e2 := HP7.out.dw.lo _ hk
            omega))
          clear hT y0 y1 y2 y3 v0 v1 v2 v3 f0 f1 f2 f3
          go_wp2_with (go_at_call 13; refine cP.out.mono ?_; rintro e w8 ⟨S', rfl, hd, hg, hi⟩; have HP8 := Lib.hid (HP7.out.put hd hg hi); clear hd hg hi)
          go_meet
          exact ⟨g, h', c', S', _, _, _, rfl, rfl, by omega, by have := wrS_le ls m I bs s; omega, HP8⟩
        by_cases kd1 : kd = 1
        · subst kd1
          obtain ⟨⟨x0, x1, x2, x3⟩, -⟩ := HP4.out.bx.facts
          have hcv := run_text (P := Try.prog) Try.underlying34 Try.underlying5 Try.underlying9 (HBLW.out.below HP4.out.dw.bel) c2
          have cW := Lib.hid (RPut HP4.out.rf m r s I bs hI32 (by omega))
          go_upto_region 18 with (go_at_call 12; refine cW.out.mono ?_; rintro e w5 ⟨h', c', rfl, hR, hh, hb⟩; have HR5 := Lib.hid hR; have HH5 := Lib.hid hh; have HB5 := Lib.hid hb; clear hR hh hb)
          have hb6 : Below w5.heap.size w5 (w5.alloc (.cells #[.int .i64 (m : Int), .slice (some ⟨h', 0, none⟩) n c', .int .i64 (r : Int), .int .i64 ((wrS ls m I bs s : Nat) : Int)] 31)) := (Below.refl _ _).alloc (Nat.le_refl _) _
          have hx13 := Box.new w5 (.int .i64 (m : Int)) (.slice (some ⟨h', 0, none⟩) n c') (.int .i64 (r : Int)) (.int .i64 ((wrS ls m I bs s : Nat) : Int))
          have HR6 := Lib.hid (HR5.out.kept hb6)
          have HB6 := Lib.hid (HB5.out.trans (hb6.mono HB5.out.size))
          generalize w5.alloc (.cells #[.int .i64 (m : Int), .slice (some ⟨h', 0, none⟩) n c', .int .i64 (r : Int), .int .i64 ((wrS ls m I bs s : Nat) : Int)] 31) = w6 at *
          have HA6 := Lib.hid (HA4.out.kept HB6.out)
          obtain ⟨⟨y0, y1, y2, y3⟩, -⟩ := hx13.facts
          obtain ⟨⟨v0, v1, v2, v3⟩, f0, f1, f2, f3⟩ := (HP4.out.bx.kept HB6.out).facts
          have hT := HP4.out.turn HB6.out HR6.out HH5.out r (wrS ls m I bs s)
          have HT := Lib.hid hT
          clear hb6 hx13 x0 x1 x2 x3 hcv hT
          go_upto_region 19 with fail
          have hT := HT.out
          clear HT
          generalize (((w6.setCell ⟨bw, 0, none⟩ (.int .i64 (m : Int))).setCell ⟨bw, 1, none⟩ (.slice (some ⟨h', 0, none⟩) n c')).setCell ⟨bw, 2, none⟩ (.int .i64 (r : Int))).setCell ⟨bw, 3, none⟩ (.int .i64 ((wrS ls m I bs s : Nat) : Int)) = w7 at *
          have HP7 := Lib.hid hT.1
          obtain ⟨-, a1', a2'⟩ := (HA6.out.into hT.2 (by simpa using HNA.out.2)).facts
          have cP := Lib.hid (HP7.out.dw.Put I (by omega) B c2 bs (HBLW.out.below HP7.out.dw.bel) (fun h0 a ha hk => by
            have e1 := HBW.out h0 a ha
            have e2 := HP7.out.dw.lo _ hk
            omega))
          clear hT y0 y1 y2 y3 v0 v1 v2 v3 f0 f1 f2 f3
          go_wp2_with (go_at_call 13; refine cP.out.mono ?_; rintro e w8 ⟨S', rfl, hd, hg, hi⟩; have HP8 := Lib.hid (HP7.out.put hd hg hi); clear hd hg hi)
          go_meet
          exact ⟨g, h', c', S', _, _, _, rfl, rfl, by omega, by have := wrS_le ls m I bs s; omega, HP8⟩
        by_cases kd2 : kd = 2
        · subst kd2
          obtain ⟨⟨x0, x1, x2, x3⟩, -⟩ := HP4.out.bx.facts
          have cW := Lib.hid (RGet HP4.out.rf m r s I hI32 (by omega))
          go_upto_region 22 with (go_at_call 14; refine cW.out.mono ?_; rintro e w5 ⟨rfl, hb⟩; have HB5 := Lib.hid hb; clear hb)
          have hb6 : Below w5.heap.size w5 (w5.alloc (.cells #[.int .i64 (m : Int), .slice (some ⟨h, 0, none⟩) n c, .int .i64 ((rdS ls I r : Nat) : Int), .int .i64 (s : Int)] 31)) := (Below.refl _ _).alloc (Nat.le_refl _) _
          have hx13 := Box.new w5 (.int .i64 (m : Int)) (.slice (some ⟨h, 0, none⟩) n c) (.int .i64 ((rdS ls I r : Nat) : Int)) (.int .i64 (s : Int))
          have HB6 := Lib.hid (HB5.out.trans (hb6.mono HB5.out.size))
          generalize w5.alloc (.cells #[.int .i64 (m : Int), .slice (some ⟨h, 0, none⟩) n c, .int .i64 ((rdS ls I r : Nat) : Int), .int .i64 (s : Int)] 31) = w6 at *
          have HR6 := Lib.hid (HP4.out.rf.kept HB6.out)
          have HA6 := Lib.hid (HA4.out.kept HB6.out)
          obtain ⟨⟨y0, y1, y2, y3⟩, -⟩ := hx13.facts
          obtain ⟨⟨v0, v1, v2, v3⟩, f0, f1, f2, f3⟩ := (HP4.out.bx.kept HB6.out).facts
          have HT := Lib.hid (HP4.out.turn HB6.out HR6.out (.inl rfl) (rdS ls I r) s)
          clear hb6 hx13 x0 x1 x2 x3
          go_upto_region 23 with fail
          have hT := HT.out
          clear HT
          generalize (((w6.setCell ⟨bw, 0, none⟩ (.int .i64 (m : Int))).setCell ⟨bw, 1, none⟩ (.slice (some ⟨h, 0, none⟩) n c)).setCell ⟨bw, 2, none⟩ (.int .i64 ((rdS ls I r : Nat) : Int))).setCell ⟨bw, 3, none⟩ (.int .i64 (s : Int)) = w7 at *
          have HP7 := Lib.hid hT.1
          obtain ⟨-, a1', a2'⟩ := (HA6.out.into hT.2 (by simpa using HNA.out.2)).facts
          have cP := Lib.hid (HP7.out.dw.Get I (by omega))
          clear hT y0 y1 y2 y3 v0 v1 v2 v3 f0 f1 f2 f3
          go_upto_region 24 with (go_at_call 15; refine cP.out.mono ?_; rintro e w8 ⟨A8, k8, rfl, hbl, hd, hi⟩; have HP8 := Lib.hid (HP7.out.get hd hi); have HBL8 := Lib.hid hbl; clear hd hi hbl)
          have hcv8 := run_text (P := Try.prog) Try.underlying34 Try.underlying5 Try.underlying9 HBL8.out k8
          go_wp2_with fail
          go_meet
          exact ⟨g, h, c, S, _, _, _, rfl, rfl, by have := rdS_le ls I r; omega, by omega, HP8⟩
        by_cases kd3 : kd = 3
        · subst kd3
          obtain ⟨⟨x0, x1, x2, x3⟩, -⟩ := HP4.out.bx.facts
          have hln := HP4.out.rf.len
          have hll : ∀ l, l ∈ ls → l.length = m := by
            obtain ⟨⟨b, c, bks, h1, _⟩, _⟩ := HP4.out.dw.dv
            exact h1.ll
          have hfl : ls.flatten.length = M := by rw [flat_len hll, hln, HM.out]
          have cI := Lib.hid (Image_n HP4.out.dw.dv n M hln.symm HM.out (by omega))
          have cFr : ∀ w5 q, Below w.heap.size w w5 → Row 5 w5 q ls.flatten → Hid (Calls Try.prog 16 #[.int .i64 (m : Int), .slice (some ⟨q, 0, none⟩) M M] w5 fun e w' => Mk w w5 w' m ls 0 0 e) := fun w5 q hb hrow => by
            have := From_mk hb m n M (some ⟨q, 0, none⟩) ls.flatten m1 (by omega) n1 (by omega) (by rw [hfl, HM.out]) hrow.bl (by rw [← HM.out]; omega)
            have hc := chunks_of hll
            rw [hln] at hc
            rw [hfl, hc] at this
            exact this
          clear hln hll hfl
          go_upto_region 30 with (first
            | (go_at_call 17; refine cI.out.mono ?_; rintro e w5 ⟨⟨q, rfl, hrow, _⟩, hb⟩; have HP5 := Lib.hid (HP4.out.kept hb); have HROW := Lib.hid hrow; clear hrow hb)
            | (go_at_call 16; refine (cFr _ _ HP5.out.dw.bel HROW.out).out.mono ?_; rintro e w6 ⟨g', S', rfl, hd, hS, hb⟩; have HP6 := Lib.hid (HP5.out.swap hb hd hS); clear hd hS hb))
          obtain ⟨⟨y0, y1, y2, y3⟩, f0, f1, f2, f3⟩ := HP6.out.bx.facts
          have HP7 := Lib.hid HP6.out.zero
          go_wp2_with fail
          go_meet
          exact ⟨g', h, c, S', ls, 0, 0, rfl, rfl, by omega, by omega, HP7⟩
        · have k0 : (kd == 0) = false := by simpa using kd0
          have k1' : (kd == 1) = false := by simpa using kd1
          have k2' : (kd == 2) = false := by simpa using kd2
          have k3' : (kd == 3) = false := by simpa using kd3
          clear kd0 kd1 kd2 kd3
          go_wp2_with fail
          go_meet
          exact ⟨g, h, c, S, ls, r, s, rfl, rfl, by omega, by omega, HP4⟩
      case rest =>
      obtain ⟨g', h', c', S', ls', r', s', rfl, rfl, hr', hs', HP9⟩ := hcut
      clear HP4 HA4 a0 a1 a2 HBLW HBW HX HNA
      have hln := HP9.out.rf.len
      have hll : ∀ l, l ∈ ls' → l.length = m := by
        obtain ⟨⟨b, c, bks, h1, _⟩, _⟩ := HP9.out.dw.dv
        exact h1.ll
      have HFL : Hid (ls'.flatten.length = M) := by unfold Hid; rw [flat_len hll, hln, HM.out]
      have cS := Lib.hid (Stats_any HP9.out.dw.dv)
      have cI : ∀ W, Pe w W S' g' bw h' c' m n ls' r' s' ls' r' s' → Hid (Calls Try.prog 17 #[.pointer (some ⟨g', 0, none⟩)] W fun e w' => Pictured W w' M ls'.flatten e ∧ Below W.heap.size W w') := fun W h => Image_n h.dw.dv n M hln.symm HM.out (by omega)
      have cJ : ∀ W, Pe w W S' g' bw h' c' m n ls' r' s' ls' r' s' → Hid (Calls Try.prog 19 #[.agg #[.int .i64 (m : Int), .slice (some ⟨h', 0, none⟩) n c', .int .i64 (r' : Int), .int .i64 (s' : Int)]] W fun e w' => e = .returned (.string (strOf ls'.flatten)) ∧ Below W.heap.size W w') := fun W h => RImage_any m n c' h' _ _ ls' W h.rf (by rw [HFL.out]; omega)
      have cB : ∀ W, Pe w W S' g' bw h' c' m n ls' r' s' ls' r' s' → Hid (Calls Try.prog 20 #[.pointer (some ⟨g', 0, none⟩)] W fun e w' => e = .returned (.int .i64 (n : Int)) ∧ W = w') := fun W h => by
        have := Blocks_any h.dw.dv
        rw [hln] at this
        exact this
      have cY : ∀ W, Pe w W S' g' bw h' c' m n ls' r' s' ls' r' s' → Hid (Calls Try.prog 21 #[.pointer (some ⟨g', 0, none⟩)] W fun e w' => e = .returned (.int .i64 (m : Int)) ∧ W = w') := fun W h => Bytes_any h.dw.dv
      clear hln hll
      go_upto_region 32 with (go_at_call 18; refine cS.out.mono ?_; rintro e w10 ⟨rfl, hb⟩; have HP10 := Lib.hid (HP9.out.kept hb); clear hb)
      have hb11 : Below w10.heap.size w10 (w10.alloc (.cells #[.int .u64 (r' : Int), .int .u64 (s' : Int)] 48)) := (Below.refl _ _).alloc (Nat.le_refl _) _
      have hst : (w10.alloc (.cells #[.int .u64 (r' : Int), .int .u64 (s' : Int)] 48)).heap[w10.heap.size]? = some (.cells #[.int .u64 (r' : Int), .int .u64 (s' : Int)] 48 (0, 0)) := heap_alloc_new w10 _
      have HP11 := Lib.hid (HP10.out.kept hb11)
      generalize w10.alloc (.cells #[.int .u64 (r' : Int), .int .u64 (s' : Int)] 48) = w11 at *
      obtain ⟨bt, hbt⟩ : ∃ bt, bt = w10.heap.size := ⟨_, rfl⟩
      rw [← hbt] at hst
      simp only [← hbt]
      have HST := Lib.hid hst
      clear hst hb11 hbt HP10 HP9 cS
      have hwr : IntKind.u64.wrap (r' : Int) = (r' : Int) := by rw [IntKind.wrap_u64]; omega
      have hws : IntKind.u64.wrap (s' : Int) = (s' : Int) := by rw [IntKind.wrap_u64]; omega
      obtain ⟨⟨y0, y1, y2, y3⟩, -⟩ := HP11.out.bx.facts
      have z0 := fun q : Drift.Tide [] w11 [] => Drift.Tide.cell y0 (by simp) q
      have z1 := fun q : Drift.Tide [] w11 [] => Drift.Tide.cell y1 (by simp) q
      have z2 := fun q : Drift.Tide [] w11 [] => Drift.Tide.cell y2 (by simp) q
      have z3 := fun q : Drift.Tide [] w11 [] => Drift.Tide.cell y3 (by simp) q
      clear y0 y1 y2 y3
      refine Drift.wp_region_drift [] [(0,[]),(1,[]),(2,[]),(3,[]),(6,[]),(4,[]),(5,[]),(7,[]),(8,[]),(9,[]),(10,[]),(11,[]),(12,[]),(13,[]),(14,[]),(15,[]),(16,[]),(17,[]),(18,[]),(19,[]),(20,[]),(21,[]),(22,[]),(23,[]),(24,[]),(25,[]),(26,[]),(27,[]),(28,[]),(29,[]),(30,[]),(31,[]),(32,[])] [4] [] (by kernel_rfl) (by kernel_rfl) (by simp) ?_
      simp only [Drift.pick, Drift.opsAt, List.getElem?_toArray, List.getElem?_cons_zero, List.getElem?_cons_succ, List.cons_append, List.nil_append, List.filterMap_cons, List.filterMap_nil]
      repeat (refine Drift.walk_step (fun K hK => ?_); go_simp; (refine hK _ ?_; clear hK K))
      refine Drift.walk_event rfl Drift.mkwalk_nil (EvPict M ls'.flatten) (fun W hk _ => ?_) (fun v w12 hv hI _ hTd => ?_)
      · go_simp
        go_at_call 17
        exact (cI W (HP11.out.kept hk)).out.mono fun e w' ⟨⟨q, he, hr, _⟩, hb⟩ => ⟨_, he, ⟨q, rfl, hr⟩, Flow.Into.of_below hb⟩
      · obtain ⟨q6, rfl, hrow⟩ := hv
        have HP12 := Lib.hid (HP11.out.kept hI.below)
        have hst : w12.heap[bt]? = some (.cells #[.int .u64 (r' : Int), .int .u64 (s' : Int)] 48 (0, 0)) := (hI.below.block bt (Array.getElem?_eq_some_iff.1 HST.out).1).trans HST.out
        have t0 : w12.cell? ⟨bt, 0, none⟩ = some (.int .u64 (r' : Int)) := by simp [World.cell?, hst]
        have t1 : w12.cell? ⟨bt, 1, none⟩ = some (.int .u64 (s' : Int)) := by simp [World.cell?, hst]
        obtain ⟨⟨-, -, y2, y3⟩, -⟩ := HP12.out.bx.facts
        have HR6 := Lib.hid hrow
        have cv3 : ∀ q : Drift.Tide [] w12 [], (convert 34 9 (.slice (some ⟨q6, 0, none⟩) M M)).run Try.prog q.sea = .ok (.string (strOf ls'.flatten)) q.sea := fun q => run_text_n Try.underlying34 Try.underlying5 Try.underlying9 (HR6.out.bl.below q.into.below) HFL.out M
        have x0 := fun q : Drift.Tide [] w12 [] => Drift.Tide.cell t0 (by simp) q
        have x1 := fun q : Drift.Tide [] w12 [] => Drift.Tide.cell t1 (by simp) q
        have x2 := fun q : Drift.Tide [] w12 [] => Drift.Tide.cell y2 (by simp) q
        have x3 := fun q : Drift.Tide [] w12 [] => Drift.Tide.cell y3 (by simp) q
        clear z0 z1 z2 z3 hrow hI hst t0 t1 y2 y3
        repeat (refine Drift.walk_step (fun K hK => ?_); go_simp; first | (refine hK _ ?_; clear hK K) | (apply Exists.intro; refine ⟨fun q => ?_, hK _ ?_⟩; (first | (go_at_call 19; exact (cJ _ (HP12.out.kept q.into.below)).out) | (go_at_call 20; exact (cB _ (HP12.out.kept q.into.below)).out.mono fun e w' ⟨he, hw⟩ => ⟨he, by subst hw; exact Below.refl _ _⟩) | (go_at_call 21; exact (cY _ (HP12.out.kept q.into.below)).out.mono fun e w' ⟨he, hw⟩ => ⟨he, by subst hw; exact Below.refl _ _⟩)); clear hK K))
        refine Drift.walk_nil ?_
        intro w13 hb13 _
        have HP13 := Lib.hid (HP12.out.kept hb13)
        clear hb13 cv3 x0 x1 x2 x3
        simp only [List.length_cons, List.length_nil, List.drop_succ_cons, List.drop_nil, Nat.zero_add, Nat.reduceAdd]
        go_wp2_with fail
        go_roundg (N - (k + 1))
        case measure => omega
        case rel => exact ⟨k + 1, g', h', c', S', ls', r', s', by omega, by omega, hr', hs', rfl, by go_num, rfl, HP13⟩
    · by_cases h3 : k < N
      · have h4 : 40 ≤ k := by omega
        clear hlt
        go_wp2_with (go_at_call 9; refine (cA _).out.mono ?_; rintro e w' ⟨rfl, hb⟩; have HB := Lib.hid hb; clear hb)
        go_ret
        exact ⟨rfl, HP.out.dw.bel.trans (HB.out.mono HP.out.dw.bel.size)⟩
      · obtain rfl : k = N := by omega
        clear hlt h3
        go_wp2_with (go_at_call 9; refine (cA _).out.mono ?_; rintro e w' ⟨rfl, hb⟩; have HB := Lib.hid hb; clear hb)
        go_ret
        exact ⟨rfl, HP.out.dw.bel.trans (HB.out.mono HP.out.dw.bel.size)⟩
theorem DevPlays_walk (n m : Int) (q0 : Option Addr) (d0 : Nat) (ac : List (Int × Nat × List UInt8)) (w : World) (ha : ActL w q0 ac) (hda : ac.length ≤ maxLen) (_ : (Lit.int .i64 n).wf = true) (_ : (Lit.int .i64 m).wf = true) :
    Calls Try.prog 3 #[.int .i64 n, .int .i64 m, .slice q0 ac.length d0] w fun e w' => e = .returned (.bool true) ∧ Below w.heap.size w w' := by
  by_cases h : 5 ≤ n ∧ n ≤ 65536 ∧ 1 ≤ m ∧ m ≤ 65536
  · by_cases h2 : n ≤ 60 ∧ m ≤ 200
    · obtain ⟨n', rfl⟩ : ∃ n' : Nat, n = n' := ⟨n.toNat, by omega⟩
      obtain ⟨m', rfl⟩ : ∃ m' : Nat, m = m' := ⟨m.toNat, by omega⟩
      exact DevPlays_in n' m' q0 d0 ac w (by omega) (by omega) (by omega) (by omega) ha hda
    · exact DevPlays_great n m _ w h h2
  · exact DevPlays_out n m _ w h
end Dv
end Go.Proofs.Ytlkakknelkeegaa
