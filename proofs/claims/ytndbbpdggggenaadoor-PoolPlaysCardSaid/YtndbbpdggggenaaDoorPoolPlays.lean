/-
  PoolPlays, walked.
-/
import Derived.Test.YtndbbpdggggenaaDoorPoolPair
namespace Go.Proofs.YtndbbpdggggenaaDoor
open Go.RowKit
namespace Po
open Mem Bt

theorem cnt_tbN {n : Nat} (h : 1 ≤ n) : cnt (tbN n) = 1 ∧ free (tbN n) = n - 1 := by
  have e : ∀ i : Nat, (List.replicate n false).getD i false = false := fun i => by
    simp only [List.getD, List.getElem?_replicate]; split <;> rfl
  have h1 : cnt (tbN n) = 1 := by
    unfold cnt
    rw [tbN_len]
    have := pc_one (f := fun i => (List.replicate n false).getD i false) (g := fun i => (tbN n).getD i false) (i := 0) (e 0) (by unfold tbN; rw [getD_set _ _ _ _ _ (by simp; omega), if_pos rfl])
      (fun j hj => by unfold tbN; rw [getD_set _ _ _ _ _ (by simp; omega), if_neg hj]) (k := n) (by omega)
    rw [this, pc_none fun i _ => e i]
  exact ⟨h1, by unfold free; rw [h1, tbN_len]⟩
set_option maxHeartbeats 4000000 in
set_option maxRecDepth 100000 in
theorem PoolPlays_out (n : Int) (v u : Value) (w : World) (hT : Tab w) (h : ¬ (5 ≤ n ∧ n ≤ 65536)) :
    Calls Tryd.prog 3 #[.int .i64 n, v, u] w fun e w' => e = .returned (.bool true) ∧ Below w.heap.size w w' := by
  have cA := Lib.hid (awake_any w hT)
  have cN := Lib.hid (New_out n w h)
  clear hT
  by_cases h0 : n < 5
  · clear h
    go_enter Tryd.func3, Tryd.ntmps3
    go_wp2_with (first | (go_at_call 6; refine cN.out.mono ?_; rintro e w' ⟨rfl, rfl⟩) | (go_at_call 7; refine cA.out.mono ?_; rintro e w' ⟨rfl, hb⟩; have HB := Lib.hid hb; clear hb))
    go_ret
    exact ⟨rfl, HB.out⟩
  · have h1 : 65536 < n := by omega
    clear h
    go_enter Tryd.func3, Tryd.ntmps3
    go_wp2_with (first | (go_at_call 6; refine cN.out.mono ?_; rintro e w' ⟨rfl, rfl⟩) | (go_at_call 7; refine cA.out.mono ?_; rintro e w' ⟨rfl, hb⟩; have HB := Lib.hid hb; clear hb))
    go_ret
    exact ⟨rfl, HB.out⟩
set_option maxHeartbeats 4000000 in
set_option maxRecDepth 100000 in
theorem PoolPlays_great (n : Nat) (v u : Value) (w : World) (hT : Tab w) (h1 : n ≤ 65536) (h2 : 200 < n) :
    Calls Tryd.prog 3 #[.int .i64 (n : Int), v, u] w fun e w' => e = .returned (.bool true) ∧ Below w.heap.size w w' := by
  have cA := fun w hT => Lib.hid (awake_any w hT)
  have cN := Lib.hid (New_in w w hT (Below.refl _ _) n (by omega) h1)
  obtain ⟨e1, e2⟩ := cnt_tbN (n := n) (by omega)
  have cF : ∀ q g b w1, Pw w w1 q g b (tbN n) → Hid (Calls Tryd.prog 8 #[.pointer (some ⟨q, 0, none⟩)] w1 fun e w' => e = .returned (.int .i64 ((n : Int) - 1)) ∧ w1 = w') := fun q g b w1 h => by
    have := Free_any h
    rw [e2, show ((n - 1 : Nat) : Int) = (n : Int) - 1 by omega] at this
    exact this
  have cH : ∀ q g b w1, Pw w w1 q g b (tbN n) → Hid (Calls Tryd.prog 9 #[.pointer (some ⟨q, 0, none⟩)] w1 fun e w' => e = .returned (.int .i64 1) ∧ w1 = w') := fun q g b w1 h => by
    have := Held_any h
    rw [e1] at this
    exact this
  clear hT e1 e2
  generalize tbN n = t at *
  go_enter Tryd.func3, Tryd.ntmps3
  go_wp2_with (first
    | (go_at_call 6; refine cN.out.mono ?_; rintro e w1 ⟨q, g, b, rfl, hp⟩; have HP := Lib.hid hp; clear hp)
    | (go_at_call 8; refine (cF q g b _ HP.out).out.mono ?_; rintro e w' ⟨rfl, rfl⟩)
    | (go_at_call 9; refine (cH q g b _ HP.out).out.mono ?_; rintro e w' ⟨rfl, rfl⟩)
    | (go_at_call 7; refine (cA _ HP.out.rw.tab).out.mono ?_; rintro e w' ⟨rfl, hb⟩; have HB := Lib.hid hb; clear hb))
  go_ret
  exact ⟨rfl, HP.out.rw.bel.trans (HB.out.mono HP.out.size)⟩

set_option maxHeartbeats 8000000 in
set_option maxRecDepth 100000 in
theorem PoolPlays_in (n : Nat) (q0 : Option Addr) (d0 : Nat) (ac : List (Int × Int × Nat)) (ask : Nat) (w : World) (hT : Tab w) (n1 : 5 ≤ n) (n2 : n ≤ 200) (ha : ActL w q0 ac) (hda : ac.length ≤ maxLen) (hask : ask < 4294967296) :
    Calls Tryd.prog 3 #[.int .i64 (n : Int), .slice q0 ac.length d0, .int .u32 (ask : Int)] w fun e w' => e = .returned (.bool true) ∧ Below w.heap.size w w' := by
  have cA := fun w hT => Lib.hid (awake_any w hT)
  have cN := Lib.hid (New_in w w hT (Below.refl _ _) n n1 (by omega))
  have cR : ∀ q g b w1, Pw w w1 q g b (tbN n) → Hid (Calls Tryd.prog 10 #[.int .i64 (n : Int)] w1 fun e w' => ∃ h c, e = .returned (.slice (some ⟨h, 0, none⟩) n c) ∧ Pr w w' q g b h c n (tbN n) (tbN n)) := fun q g b w1 h => h.RNew hT (by omega) (by omega)
  have HT := Lib.hid hT
  unfold maxLen at hda
  obtain ⟨N, hN⟩ : ∃ N, N = ac.length := ⟨_, rfl⟩
  rw [← hN] at hda ⊢
  have HNN := Lib.hid hN
  have HAL := Lib.hid ha
  generalize tbN n = t0 at *
  clear hN ha hT
  go_enter Tryd.func3, Tryd.ntmps3
  go_upto_region 9 with (first
    | (go_at_call 6; refine cN.out.mono ?_; rintro e w1 ⟨q, g, b, rfl, hp⟩; have HP := Lib.hid hp; clear hp)
    | (go_at_call 10; refine (cR q g b _ HP.out).out.mono ?_; rintro e w2 ⟨h0, c0, rfl, hp⟩; have HP0 := Lib.hid hp; clear hp))
  clear cN cR HP
  go_upto_region 10 with fail
  go_loopg [9, 10] N (fun gk dv i wr => ∃ (k h c : Nat) (t : List Bool), k ≤ N ∧ k ≤ 60 ∧ gk = N - k ∧ i = .int .i64 (k : Int) ∧ dv = .slice (some ⟨h, 0, none⟩) n c ∧ Hid (Pr w wr q g b h c n t t))
  case atStart => exact ⟨0, h0, c0, t0, Nat.zero_le _, Nat.zero_le _, rfl, rfl, rfl, HP0⟩
  case round =>
    obtain ⟨k, h, c, t, hk, hk4, rfl, rfl, rfl, HP⟩ := hrel
    clear HP0
    by_cases hlt : k < N ∧ k < 60
    · obtain ⟨k1, k2⟩ := hlt
      obtain ⟨ab, o, rfl, hc0, hc1, hc2, hI32⟩ := HAL.out.at_ (show k < ac.length by rw [← HNN.out]; exact k1)
      obtain ⟨x, hx⟩ : ∃ x, x = ac[k]'(by rw [← HNN.out]; exact k1) := ⟨_, rfl⟩
      rw [← hx] at hc0 hc1 hc2 hI32
      obtain ⟨kd, K, I⟩ := x
      simp only at hc0 hc1 hc2 hI32
      have d0 := cell_after HP.out.pw.rw.bel hc0
      have d1 := cell_after HP.out.pw.rw.bel hc1
      have d2 := cell_after HP.out.pw.rw.bel hc2
      clear hx hc0 hc1 hc2
      go_upto_region 13 with fail
      have hb4 : Below wr.heap.size wr (wr.alloc (.cells #[.int .i64 kd, .int .i64 K, .int .u32 (I : Int)] 33)) := (Below.refl _ _).alloc (Nat.le_refl _) _
      have HA4 := Lib.hid (ABox.new wr kd K I)
      have HP4 := Lib.hid (HP.out.kept HT.out hb4)
      generalize wr.alloc (.cells #[.int .i64 kd, .int .i64 K, .int .u32 (I : Int)] 33) = w4 at *
      obtain ⟨ba, hba⟩ : ∃ ba, ba = wr.heap.size := ⟨_, rfl⟩
      rw [← hba] at HA4
      simp only [← hba]
      have HNA : Hid (ba ∉ [b]) := by
        have := HP.out.pw.lts.2.2.1
        unfold Hid
        simp; omega
      clear hb4 hba HP d0 d1 d2
      obtain ⟨a0, a1, a2⟩ := HA4.out.facts
      go_upto_block 2 with fail
      go_cut [9, 12] (fun dv ok wx => ∃ (h' c' : Nat) (t' : List Bool), dv = .slice (some ⟨h', 0, none⟩) n c' ∧ ok = .bool true ∧ Hid (Pr w wx q g b h' c' n t' t'))
      case first =>
        by_cases kd0 : kd = 0
        · subst kd0
          as_aux_lemma =>
            by_cases hfr : 1 ≤ free t
            · obtain ⟨t1, l, hG⟩ := got_some hfr
              obtain ⟨x, rfl⟩ : ∃ x, l = [x] := List.length_eq_one_iff.1 hG.len.2
              have cG := Lib.hid (HP4.out.RGrab HT.out hfr hG)
              have cT : ∀ w1 h1 c1, Pr w w1 q g b h1 c1 n t t1 → Hid (Calls Tryd.prog 12 #[.pointer (some ⟨q, 0, none⟩)] w1 fun e w' => e = .returned (.tuple #[.int .u32 (x : Int), .int .i64 0]) ∧ Pr w w' q g b h1 c1 n t1 t1 ∧ Flow.Into [b] w1 w') := fun w1 h1 c1 H => H.Take HT.out hfr hG
              clear hfr hG
              go_upto_region 19 with (go_at_call 11; refine cG.out.mono ?_; rintro e w5 ⟨h1, c1, A, c2, rfl, hp, hu, hn, -⟩)
              have HP5 := Lib.hid hp
              have HU5 := Lib.hid hu
              have HN5 := Lib.hid hn
              clear hp hu hn cG
              go_upto_region 20 with (go_at_call 12; refine (cT _ _ _ HP5.out).out.mono ?_; rintro e w6 ⟨rfl, hp, hi⟩)
              obtain ⟨y, rfl, -, hcy⟩ := HU5.out.into hi HN5.out (by simp)
              have hcx : w6.cell? ⟨y, 0, none⟩ = some (.int .u32 (x : Int)) := hcy 0 (by simp)
              have HP6 := Lib.hid hp
              clear hp hi hcy cT HP5 HU5 HN5
              go_wp2_with fail
              go_meet
              exact ⟨h1, c1, t1, rfl, rfl, HP6⟩
            · have hf0 : free t = 0 := by omega
              have cG := Lib.hid (RGrab_full h c n t 1 w4 HP4.out.bo (by omega) (by omega) (by omega))
              have cT := Lib.hid (Take_full HP4.out.pw hf0)
              clear hfr hf0
              go_wp2_with (first
                | (go_at_call 11; refine cG.out.mono ?_; rintro e w' ⟨rfl, rfl⟩)
                | (go_at_call 12; refine cT.out.mono ?_; rintro e w' ⟨rfl, rfl⟩))
              go_meet
              exact ⟨h, c, t, rfl, rfl, HP4⟩
        by_cases kd1 : kd = 1
        · subst kd1
          as_aux_lemma =>
            by_cases hfr : 1 ≤ free t
            · obtain ⟨t1, l, hG⟩ := got_some hfr
              obtain ⟨x, rfl⟩ : ∃ x, l = [x] := List.length_eq_one_iff.1 hG.len.2
              have cG := Lib.hid (HP4.out.RGrab HT.out hfr hG)
              have cT : ∀ w1 h1 c1, Pr w w1 q g b h1 c1 n t t1 → Hid (Calls Tryd.prog 12 #[.pointer (some ⟨q, 0, none⟩)] w1 fun e w' => e = .returned (.tuple #[.int .u32 (x : Int), .int .i64 0]) ∧ Pr w w' q g b h1 c1 n t1 t1 ∧ Flow.Into [b] w1 w') := fun w1 h1 c1 H => H.Take HT.out hfr hG
              clear hfr hG
              go_upto_region 19 with (go_at_call 11; refine cG.out.mono ?_; rintro e w5 ⟨h1, c1, A, c2, rfl, hp, hu, hn, -⟩)
              have HP5 := Lib.hid hp
              have HU5 := Lib.hid hu
              have HN5 := Lib.hid hn
              clear hp hu hn cG
              go_upto_region 20 with (go_at_call 12; refine (cT _ _ _ HP5.out).out.mono ?_; rintro e w6 ⟨rfl, hp, hi⟩)
              obtain ⟨y, rfl, -, hcy⟩ := HU5.out.into hi HN5.out (by simp)
              have hcx : w6.cell? ⟨y, 0, none⟩ = some (.int .u32 (x : Int)) := hcy 0 (by simp)
              have HP6 := Lib.hid hp
              clear hp hi hcy cT HP5 HU5 HN5
              go_wp2_with fail
              go_meet
              exact ⟨h1, c1, t1, rfl, rfl, HP6⟩
            · have hf0 : free t = 0 := by omega
              have cG := Lib.hid (RGrab_full h c n t 1 w4 HP4.out.bo (by omega) (by omega) (by omega))
              have cT := Lib.hid (Take_full HP4.out.pw hf0)
              clear hfr hf0
              go_wp2_with (first
                | (go_at_call 11; refine cG.out.mono ?_; rintro e w' ⟨rfl, rfl⟩)
                | (go_at_call 12; refine cT.out.mono ?_; rintro e w' ⟨rfl, rfl⟩))
              go_meet
              exact ⟨h, c, t, rfl, rfl, HP4⟩
        by_cases kd2 : kd = 2
        · subst kd2
          as_aux_lemma =>
            by_cases hK : K < 0
            · skip
              have cG := Lib.hid (RGrab_neg h c n K w4 hK)
              have cP := Lib.hid (Grab_neg HP4.out.pw K hK)
              have cS := fun w => Lib.hid (Same_like (A := none) (A' := none) (m := 0) (c := 0) (c' := 0) (l := []) (UL.nil w) (UL.nil w) rfl (by omega))
              go_wp2_with (first
                | (go_at_call 11; refine cG.out.mono ?_; rintro e w' ⟨rfl, rfl⟩)
                | (go_at_call 13; refine cP.out.mono ?_; rintro e w' ⟨rfl, rfl⟩)
                | (go_at_call 14; refine (cS _).out.mono ?_; rintro e w5 ⟨rfl, hb⟩; have HP5 := Lib.hid (HP4.out.kept HT.out hb); clear hb))
              go_meet
              exact ⟨h, c, t, rfl, rfl, HP5⟩
            by_cases hF : (free t : Int) < K
            · skip
              have cG := Lib.hid (RGrab_full h c n t K w4 HP4.out.bo (by omega) (by omega) hF)
              have cP := Lib.hid (Grab_full HP4.out.pw K (by omega) hF)
              have cS := fun w => Lib.hid (Same_like (A := none) (A' := none) (m := 0) (c := 0) (c' := 0) (l := []) (UL.nil w) (UL.nil w) rfl (by omega))
              go_wp2_with (first
                | (go_at_call 11; refine cG.out.mono ?_; rintro e w' ⟨rfl, rfl⟩)
                | (go_at_call 13; refine cP.out.mono ?_; rintro e w' ⟨rfl, rfl⟩)
                | (go_at_call 14; refine (cS _).out.mono ?_; rintro e w5 ⟨rfl, hb⟩; have HP5 := Lib.hid (HP4.out.kept HT.out hb); clear hb))
              go_meet
              exact ⟨h, c, t, rfl, rfl, HP5⟩
            obtain ⟨m, rfl⟩ : ∃ m : Nat, K = m := ⟨K.toNat, by omega⟩
            have hfr : m ≤ free t := by omega
            have hm : m ≤ 1048576 := by have h1 : free t ≤ t.length := by (unfold free; omega)
                                        have := HP4.out.ln
                                        omega
            obtain ⟨t1, l, hG⟩ := got_some hfr
            have HL := Lib.hid hG.len.2
            have cG := Lib.hid (HP4.out.RGrab HT.out hfr hG)
            have cP : ∀ w1 h1 c1, Pr w w1 q g b h1 c1 n t t1 → Hid (Calls Tryd.prog 13 #[.pointer (some ⟨q, 0, none⟩), .int .i64 (m : Int)] w1 fun e w' => ∃ c', e = .returned (.tuple #[.slice (some ⟨c', 0, none⟩) m m, .int .i64 0]) ∧ Pr w w' q g b h1 c1 n t1 t1 ∧ UL w' (some ⟨c', 0, none⟩) l ∧ Flow.Into [b] w1 w') := fun w1 h1 c1 H => H.Grab HT.out hfr hG
            clear hfr hG hK hF
            go_upto_region 23 with (go_at_call 11; refine cG.out.mono ?_; rintro e w5 ⟨h1, c1, A, c2, rfl, hp, hu, hn, hb⟩)
            have HP5 := Lib.hid hp
            have HU5 := Lib.hid hu
            have HN5 := Lib.hid hn
            obtain ⟨-, b1, b2⟩ := (HA4.out.kept hb).facts
            clear hp hu hn hb cG a0 a1 a2
            go_upto_region 25 with (go_at_call 13; refine (cP _ _ _ HP5.out).out.mono ?_; rintro e w6 ⟨c', rfl, hp, hu, hi⟩)
            have cS := Lib.hid (Same_like (c := m) (c' := c2) hu (HU5.out.into hi HN5.out) HL.out hm)
            have HP6 := Lib.hid hp
            clear hp hi hu cP HP5 HU5 HN5 b1 b2
            go_wp2_with (go_at_call 14; refine cS.out.mono ?_; rintro e w7 ⟨rfl, hb⟩; have HP7 := Lib.hid (HP6.out.kept HT.out hb); clear hb)
            go_meet
            exact ⟨h1, c1, t1, rfl, rfl, HP7⟩
        by_cases kd3 : kd = 3
        · subst kd3
          as_aux_lemma =>
            have cG := Lib.hid (HP4.out.RMark HT.out hI32)
            have cP : ∀ w1 h1 c1, Pr w w1 q g b h1 c1 n t (setT t I) → Hid (Calls Tryd.prog 16 #[.pointer (some ⟨q, 0, none⟩), .int .u32 (I : Int)] w1 fun e w' => e = .returned (.int .i64 (setE t I)) ∧ Pr w w' q g b h1 c1 n (setT t I) (setT t I)) := fun w1 h1 c1 H => H.Mark HT.out hI32
            generalize setT t (I : Int) = t1 at *
            generalize setE t (I : Int) = x1 at *
            go_upto_region 29 with (go_at_call 15; refine cG.out.mono ?_; rintro e w5 ⟨h1, c1, rfl, hp, hb⟩)
            have HP5 := Lib.hid hp
            obtain ⟨-, b1, b2⟩ := (HA4.out.kept hb).facts
            clear hp hb cG a0 a1 a2
            go_wp2_with (go_at_call 16; refine (cP _ _ _ HP5.out).out.mono ?_; rintro e w6 ⟨rfl, hp⟩; have HP6 := Lib.hid hp; clear hp)
            go_meet
            exact ⟨h1, c1, t1, rfl, rfl, HP6⟩
        by_cases kd4 : kd = 4
        · subst kd4
          as_aux_lemma =>
            have cG := Lib.hid (HP4.out.RGive HT.out hI32)
            have cP : ∀ w1 h1 c1, Pr w w1 q g b h1 c1 n t (gvT t I) → Hid (Calls Tryd.prog 18 #[.pointer (some ⟨q, 0, none⟩), .int .u32 (I : Int)] w1 fun e w' => e = .returned (.int .i64 (gvE t I)) ∧ Pr w w' q g b h1 c1 n (gvT t I) (gvT t I)) := fun w1 h1 c1 H => H.Give HT.out hI32
            generalize gvT t (I) = t1 at *
            generalize gvE t (I) = x1 at *
            go_upto_region 34 with (go_at_call 17; refine cG.out.mono ?_; rintro e w5 ⟨h1, c1, rfl, hp, hb⟩)
            have HP5 := Lib.hid hp
            obtain ⟨-, b1, b2⟩ := (HA4.out.kept hb).facts
            clear hp hb cG a0 a1 a2
            go_wp2_with (go_at_call 18; refine (cP _ _ _ HP5.out).out.mono ?_; rintro e w6 ⟨rfl, hp⟩; have HP6 := Lib.hid hp; clear hp)
            go_meet
            exact ⟨h1, c1, t1, rfl, rfl, HP6⟩
        by_cases kd5 : kd = 5
        · subst kd5
          as_aux_lemma =>
            have cG := Lib.hid (HP4.out.RGive HT.out hI32)
            have cP : ∀ w1 h1 c1, Pr w w1 q g b h1 c1 n t (gvT t I) → Hid (Calls Tryd.prog 18 #[.pointer (some ⟨q, 0, none⟩), .int .u32 (I : Int)] w1 fun e w' => e = .returned (.int .i64 (gvE t I)) ∧ Pr w w' q g b h1 c1 n (gvT t I) (gvT t I)) := fun w1 h1 c1 H => H.Give HT.out hI32
            generalize gvT t (I) = t1 at *
            generalize gvE t (I) = x1 at *
            go_upto_region 34 with (go_at_call 17; refine cG.out.mono ?_; rintro e w5 ⟨h1, c1, rfl, hp, hb⟩)
            have HP5 := Lib.hid hp
            obtain ⟨-, b1, b2⟩ := (HA4.out.kept hb).facts
            clear hp hb cG a0 a1 a2
            go_wp2_with (go_at_call 18; refine (cP _ _ _ HP5.out).out.mono ?_; rintro e w6 ⟨rfl, hp⟩; have HP6 := Lib.hid hp; clear hp)
            go_meet
            exact ⟨h1, c1, t1, rfl, rfl, HP6⟩
        as_aux_lemma =>
          have k0 : (kd == 0) = false := by simpa using kd0
          have k1' : (kd == 1) = false := by simpa using kd1
          have k2' : (kd == 2) = false := by simpa using kd2
          have k3' : (kd == 3) = false := by simpa using kd3
          have k4' : (kd == 4) = false := by simpa using kd4
          have k5' : (kd == 5) = false := by simpa using kd5
          clear kd0 kd1 kd2 kd3 kd4 kd5
          go_wp2_with fail
          go_meet
          exact ⟨h, c, t, rfl, rfl, HP4⟩
      case rest =>
      obtain ⟨h', c', t', rfl, rfl, HP9⟩ := hcut
      clear HP4 HA4 a0 a1 a2 HNA
      have HTL : Hid ((tks t' t'.length).length = cnt t') := tks_all t'
      have hle := HP9.out.le
      have hcn : cnt t' ≤ n := by have := cnt_le t'; have := HP9.out.ln; omega
      have hsub : IntKind.i64.wrap ((n : Int) - (free t' : Int)) = (cnt t' : Int) := by
        have := HP9.out.ln
        have := cnt_le t'
        unfold free
        rw [IntKind.wrap_i64]; omega
      have cRow : ∀ w1, Pr w w1 q g b h' c' n t' t' → Hid (Calls Tryd.prog 19 #[.pointer (some ⟨q, 0, none⟩)] w1 fun e w' => ∃ A c1, e = .returned (.slice A (cnt t') c1) ∧ UL w' A (tks t' t'.length) ∧ Pr w w' q g b h' c' n t' t') := fun w1 H => H.Row HT.out
      have cRRow : ∀ w1, Pr w w1 q g b h' c' n t' t' → Hid (Calls Tryd.prog 20 #[.slice (some ⟨h', 0, none⟩) n c'] w1 fun e w' => ∃ A c1, e = .returned (.slice A (cnt t') c1) ∧ UL w' A (tks t' t'.length) ∧ Pr w w' q g b h' c' n t' t' ∧ Below w1.heap.size w1 w') := fun w1 H => H.RRow HT.out
      have cS : ∀ w1 A A' c1 c2, UL w1 A (tks t' t'.length) → UL w1 A' (tks t' t'.length) → Hid (Calls Tryd.prog 14 #[.slice A (cnt t') c1, .slice A' (cnt t') c2] w1 fun e w' => e = .returned (.bool true) ∧ Below w1.heap.size w1 w') := fun w1 A A' c1 c2 H1 H2 => Same_like H1 H2 HTL.out (by omega)
      have cF : ∀ w1, Pr w w1 q g b h' c' n t' t' → Hid (Calls Tryd.prog 8 #[.pointer (some ⟨q, 0, none⟩)] w1 fun e w' => e = .returned (.int .i64 (free t' : Int)) ∧ w1 = w') := fun w1 H => H.Free
      have cRF : ∀ w1, Pr w w1 q g b h' c' n t' t' → Hid (Calls Tryd.prog 21 #[.slice (some ⟨h', 0, none⟩) n c'] w1 fun e w' => e = .returned (.int .i64 (free t' : Int)) ∧ w1 = w') := fun w1 H => H.RFree
      have cH : ∀ w1, Pr w w1 q g b h' c' n t' t' → Hid (Calls Tryd.prog 9 #[.pointer (some ⟨q, 0, none⟩)] w1 fun e w' => e = .returned (.int .i64 (cnt t' : Int)) ∧ w1 = w') := fun w1 H => H.Held
      have cHas : ∀ w1, Pr w w1 q g b h' c' n t' t' → Hid (Calls Tryd.prog 22 #[.pointer (some ⟨q, 0, none⟩), .int .u32 (ask : Int)] w1 fun e w' => e = .returned (.bool (t'.getD ask false)) ∧ Pr w w' q g b h' c' n t' t') := fun w1 H => H.Has HT.out hask
      have hw1 : IntKind.u64.wrap (ask : Int) = (ask : Int) := by rw [IntKind.wrap_u64]; omega
      have hw2 : IntKind.u64.wrap (n : Int) = (n : Int) := by rw [IntKind.wrap_u64]; omega
      have HAN : Hid (ask < n → wc.cell? ⟨h', ask, none⟩ = some (.bool (t'.getD ask false))) := fun h => HP9.out.bo.cell h
      have HAF : Hid (¬ ask < n → t'.getD ask false = false) := fun h => by
        have := HP9.out.ln
        simp only [List.getD]
        rw [List.getElem?_eq_none (by omega)]; rfl
      generalize tks t' t'.length = l at *
      generalize cnt t' = C at *
      generalize free t' = F at *
      generalize t'.getD ask false = vA at *
      clear hle
      go_upto_region 35 with fail
      go_cut [27] (fun hv wx => hv = .bool vA ∧ Hid (Pr w wx q g b h' c' n t' t'))
      case first =>
        by_cases hlt : ask < n
        · have hcA := HAN.out hlt
          clear HAN HAF
          go_upto_region 36 with fail
          go_meet
          exact ⟨rfl, HP9⟩
        · obtain rfl := HAF.out hlt
          have hge : n ≤ ask := by omega
          have hd : decide (ask < n) = false := by simpa using hlt
          clear HAN HAF hlt
          go_upto_region 36 with fail
          go_meet
          exact ⟨rfl, HP9⟩
      case rest =>
        obtain ⟨rfl, HP9⟩ := hcut
        go_wp2_with (first
          | (go_at_call 19; refine (cRow _ HP9.out).out.mono ?_; rintro e w10 ⟨A1, e1, rfl, hu, hp⟩; have HU10 := Lib.hid hu; have HP10 := Lib.hid hp; clear hu hp cRow)
          | (go_at_call 20; refine (cRRow _ HP10.out).out.mono ?_; rintro e w11 ⟨A2, e2, rfl, hu, hp, hb⟩; have HU11 := Lib.hid hu; have HU12 := Lib.hid (HU10.out.kept hb); have HP11 := Lib.hid hp; clear hu hp hb cRRow)
          | (go_at_call 14; refine (cS _ _ _ _ _ HU12.out HU11.out).out.mono ?_; rintro e w12 ⟨rfl, hb⟩; have HP12 := Lib.hid (HP11.out.kept HT.out hb); clear hb cS HP11 HP10)
          | (go_at_call 8; refine (cF _ HP12.out).out.mono ?_; rintro e w' ⟨rfl, rfl⟩; clear cF)
          | (go_at_call 21; refine (cRF _ HP12.out).out.mono ?_; rintro e w' ⟨rfl, rfl⟩)
          | (go_at_call 9; refine (cH _ HP12.out).out.mono ?_; rintro e w' ⟨rfl, rfl⟩; clear cH)
          | (go_at_call 22; refine (cHas _ HP12.out).out.mono ?_; rintro e w13 ⟨rfl, hp⟩; have HP13 := Lib.hid hp; clear hp cHas))
        go_roundg (N - (k + 1))
        case measure => omega
        case rel => exact ⟨k + 1, h', c', t', by omega, by omega, rfl, by go_num, rfl, HP13⟩
    · by_cases h3 : k < N
      · have h4 : 60 ≤ k := by omega
        clear hlt
        go_wp2_with (go_at_call 7; refine (cA _ HP.out.pw.rw.tab).out.mono ?_; rintro e w' ⟨rfl, hb⟩; have HB := Lib.hid hb; clear hb)
        go_ret
        exact ⟨rfl, HP.out.pw.rw.bel.trans (HB.out.mono HP.out.pw.size)⟩
      · obtain rfl : k = N := by omega
        clear hlt h3
        go_wp2_with (go_at_call 7; refine (cA _ HP.out.pw.rw.tab).out.mono ?_; rintro e w' ⟨rfl, hb⟩; have HB := Lib.hid hb; clear hb)
        go_ret
        exact ⟨rfl, HP.out.pw.rw.bel.trans (HB.out.mono HP.out.pw.size)⟩
theorem PoolPlays_walk (n : Int) (q0 : Option Addr) (d0 : Nat) (ac : List (Int × Int × Nat)) (ask : Nat) (w : World) (ha : ActL w q0 ac) (hda : ac.length ≤ maxLen) (hask : ask < 4294967296) (_ : (Lit.int .i64 n).wf = true) (hT : Tab w) :
    Calls Tryd.prog 3 #[.int .i64 n, .slice q0 ac.length d0, .int .u32 (ask : Int)] w fun e w' => e = .returned (.bool true) ∧ Below w.heap.size w w' := by
  by_cases h : 5 ≤ n ∧ n ≤ 65536
  · obtain ⟨m, rfl⟩ : ∃ m : Nat, n = m := ⟨n.toNat, by omega⟩
    by_cases h2 : m ≤ 200
    · exact PoolPlays_in m q0 d0 ac ask w hT (by omega) h2 ha hda hask
    · exact PoolPlays_great m _ _ w hT (by omega) (by omega)
  · exact PoolPlays_out n _ _ w hT h
end Po
end Go.Proofs.YtndbbpdggggenaaDoor
