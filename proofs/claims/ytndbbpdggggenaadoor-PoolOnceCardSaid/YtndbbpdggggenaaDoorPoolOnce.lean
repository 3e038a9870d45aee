/-
  PoolOnce, walked.
-/
import Derived.Test.YtndbbpdggggenaaDoorPoolMap
import Derived.Test.YtndbbpdggggenaaDoorPoolActs
import Derived.Test.YtndbbpdggggenaaDoorBitsTab
namespace Go.Proofs.YtndbbpdggggenaaDoor
open Go.RowKit
namespace Po
open Mem Bt

section
variable {W w w' : World} {q g b m n k : Nat} {t tm t1 : List Bool} {l : List Nat}
theorem Os.Take {x : Nat} (H : Os W w q g b m n t tm) (hT : Tab W) (hk : 1 ≤ free t) (hG : Got t 1 t1 [x]) : Calls Tryd.prog 12 #[.pointer (some ⟨q, 0, none⟩)] w fun e w' =>
    e = .returned (.tuple #[.int .u32 (x : Int), .int .i64 0]) ∧ Os W w' q g b m n t1 tm :=
  (Take_ok H.pw hT hk).mono fun _ _ ⟨t', y, he, hg, hp, hi⟩ => by
    obtain ⟨rfl, hy⟩ := hg.one hG
    obtain rfl : y = x := by simpa using hy
    exact ⟨he, H.pool hp hi hG.len.1⟩
theorem Os.Grab (H : Os W w q g b m n t tm) (hT : Tab W) (hk : k ≤ free t) (hG : Got t k t1 l) : Calls Tryd.prog 13 #[.pointer (some ⟨q, 0, none⟩), .int .i64 (k : Int)] w fun e w' =>
    ∃ c', e = .returned (.tuple #[.slice (some ⟨c', 0, none⟩) k k, .int .i64 0]) ∧ Os W w' q g b m n t1 tm ∧ UL w' (some ⟨c', 0, none⟩) l :=
  (Grab_ok H.pw hT k hk).mono fun _ _ ⟨c', t', l', he, hg, hp, ho, _, hi⟩ => by
    obtain ⟨rfl, rfl⟩ := hg.one hG
    exact ⟨c', he, H.pool hp hi hG.len.1, UL.of_ow ho⟩
theorem Os.Give (H : Os W w q g b m n t tm) (hT : Tab W) {i : Nat} (hi : i < 4294967296) : Calls Tryd.prog 18 #[.pointer (some ⟨q, 0, none⟩), .int .u32 (i : Int)] w fun e w' =>
    e = .returned (.int .i64 (gvE t i)) ∧ Os W w' q g b m n (gvT t i) tm :=
  (Give_any H.pw hT i hi).mono fun _ _ ⟨he, hp, hI⟩ => ⟨he, H.pool hp hI (gvT_len _ _)⟩
end
theorem Pw.out_ {W w : World} {q g b n : Nat} (H : Pw W w q g b (tbN n)) (hT : Tab W) (h0 : 1 ≤ n) (h1 : n ≤ 65536) :
    ∃ w', (Instr.mapUpdate 51 (.map (some w.heap.size)) (.int .u32 0) (.bool true)).run Tryd.prog (w.alloc (.map #[] 0)) = .ok () w' ∧ Os W w' q g b w.heap.size n (tbN n) (tbN n) := by
  obtain ⟨w', hr, hm, hi⟩ := (MU.made w n).store (k := 0) (by simp; omega) (by omega) (by simp [List.getD, List.getElem?_replicate]; split <;> rfl) (by simpa using h1)
  have hb : Below w.heap.size w (w.alloc (.map #[] 0)) := (Below.refl _ _).alloc (Nat.le_refl _) _
  have h2 := H.lts
  exact ⟨w', hr, ⟨(H.kept hT hb).far hT hi ⟨by omega, by omega, by omega⟩ H.size, hm, H.size, tbN_len n, tbN_len n⟩⟩

set_option maxHeartbeats 8000000 in
set_option maxRecDepth 100000 in
theorem PoolOnce_walk (n0 : Nat) (q0 : Option Addr) (d0 : Nat) (ac : List (Int × Int × Nat)) (w : World) (hn0 : n0 < 256) (ha : ActL w q0 ac) (hda : ac.length ≤ maxLen) (hT : Tab w) :
    Calls Tryd.prog 4 #[.int .u8 (n0 : Int), .slice q0 ac.length d0] w fun e w' => e = .returned (.bool true) ∧ Below w.heap.size w w' := by
  have cA := fun w hT => Lib.hid (awake_any w hT)
  obtain ⟨n, hn⟩ : ∃ n, n = 5 + n0 % 60 := ⟨_, rfl⟩
  have cN := Lib.hid (New_in w w hT (Below.refl _ _) n (by omega) (by omega))
  have hn5 : 5 ≤ n ∧ n ≤ 64 := by omega
  have hw0 : IntKind.i64.wrap (n0 : Int) = (n0 : Int) := by rw [IntKind.wrap_i64]; omega
  have hq : (5 : Int) + (n0 : Int) % 60 = (n : Int) := by omega
  have cO : ∀ w1 q g b, Pw w w1 q g b (tbN n) → Hid (∃ w', (Instr.mapUpdate 51 (.map (some w1.heap.size)) (.int .u32 0) (.bool true)).run Tryd.prog (w1.alloc (.map #[] 0)) = .ok () w' ∧ Os w w' q g b w1.heap.size n (tbN n) (tbN n)) := fun w1 q g b h => h.out_ hT (by omega) (by omega)
  have HT := Lib.hid hT
  unfold maxLen at hda
  obtain ⟨N, hN⟩ : ∃ N, N = ac.length := ⟨_, rfl⟩
  rw [← hN] at hda ⊢
  have HNN := Lib.hid hN
  have HAL := Lib.hid ha
  generalize tbN n = t0 at *
  clear hN ha hT hn
  obtain ⟨hn5, hn64⟩ := hn5
  go_enter Tryd.func4, Tryd.ntmps4
  go_upto_region 5 with (go_at_call 6; refine cN.out.mono ?_; rintro e w1 ⟨q, g, b, rfl, hp⟩)
  obtain ⟨w3, hst, ho⟩ := (cO w1 q g b hp).out
  have HO0 := Lib.hid ho
  have hmm := @run_makeMap Tryd.prog
  clear ho hp cO cN
  go_upto_region 6 with fail
  obtain ⟨m, hm⟩ : ∃ m, m = w1.heap.size := ⟨_, rfl⟩
  rw [← hm] at HO0
  simp only [← hm]
  clear hst hm hmm
  go_upto_region 7 with fail
  go_loopg [9] N (fun gk i wr => ∃ (k : Nat) (t : List Bool), k ≤ N ∧ k ≤ 100 ∧ gk = N - k ∧ i = .int .i64 (k : Int) ∧ Hid (Os w wr q g b m n t t))
  case atStart => exact ⟨0, t0, Nat.zero_le _, Nat.zero_le _, rfl, rfl, HO0⟩
  case round =>
    obtain ⟨k, t, hk, hk4, rfl, rfl, HO⟩ := hrel
    clear HO0
    by_cases hlt : k < N ∧ k < 100
    · obtain ⟨k1, k2⟩ := hlt
      obtain ⟨ab, o, rfl, hc0, hc1, hc2, hI32⟩ := HAL.out.at_ (show k < ac.length by rw [← HNN.out]; exact k1)
      obtain ⟨x, hx⟩ : ∃ x, x = ac[k]'(by rw [← HNN.out]; exact k1) := ⟨_, rfl⟩
      rw [← hx] at hc0 hc1 hc2 hI32
      obtain ⟨kd, K, I⟩ := x
      simp only at hc0 hc1 hc2 hI32
      have d0' := cell_after HO.out.pw.rw.bel hc0
      have d1' := cell_after HO.out.pw.rw.bel hc1
      have d2' := cell_after HO.out.pw.rw.bel hc2
      have HC2 := Lib.hid hc2
      clear hx hc0 hc1 hc2
      go_upto_block 2 with fail
      go_cut [10] (fun gv wx => ∃ (A : Option Addr) (c mm : Nat) (l : List Nat) (t' t1 : List Bool), gv = .slice A mm c ∧ mm ≤ 65536 ∧ Hid (mm = l.length) ∧ Hid (Os w wx q g b m n t1 t') ∧ Hid (Gift t' l t1) ∧ Hid (UL wx A l))
      case first =>
        by_cases kd0 : kd = 0
        · subst kd0
          as_aux_lemma =>
            by_cases hfr : 1 ≤ free t
            · obtain ⟨t1, l, hG⟩ := got_some hfr
              obtain ⟨x, rfl⟩ : ∃ x, l = [x] := List.length_eq_one_iff.1 hG.len.2
              have cT := Lib.hid (HO.out.Take HT.out hfr hG)
              have HGF := Lib.hid hG.gift
              clear hfr hG
              go_upto_region 16 with (go_at_call 12; refine cT.out.mono ?_; rintro e w5 ⟨rfl, ho⟩)
              have HO5 := Lib.hid ho
              have HX : Hid (Below w5.heap.size w5 (w5.alloc (.cells #[.int .u32 (x : Int)] 23))) := (Below.refl _ _).alloc (Nat.le_refl _) _
              have hcl : Hid ((w5.alloc (.cells #[.int .u32 (x : Int)] 23)).cell? ⟨w5.heap.size, 0, none⟩ = some (.int .u32 (x : Int))) := by unfold Hid; simp
              clear ho cT
              go_wp2_with (with_reducible refine wpList_append_one rfl (.tmp 59) (.tmp 61) _ rfl 23 Tryd.underlying34 (.int .u32 0) 4 u32info rfl (by omega) w5.heap.size none 0 0 [] rfl rfl (VO.nil _ _ _) w5.heap.size 1 (.int .u32 (x : Int)) rfl hcl.out rfl (by omega) HX.out.size ?_; intro A' c' w6 hd)
              have HO6 := Lib.hid (HO5.out.kept HT.out (HX.out.trans hd.out.below))
              have HU6 : Hid (UL w6 A' [x]) := UL.of_vo (c := c') (B := w5.heap.size) hd.out.vo
              go_meet
              exact ⟨A', c', 1, [x], t, t1, rfl, by omega, rfl, HO6, HGF, HU6⟩
            · have cT := Lib.hid (Take_full HO.out.pw (by omega))
              clear hfr
              go_wp2_with (go_at_call 12; refine cT.out.mono ?_; rintro e w' ⟨rfl, rfl⟩)
              go_meet
              exact ⟨none, 0, 0, [], t, t, rfl, by omega, rfl, HO, Gift.nil t, UL.nil _⟩
        by_cases kd1 : kd = 1
        · subst kd1
          as_aux_lemma =>
            by_cases hfr : 1 ≤ free t
            · obtain ⟨t1, l, hG⟩ := got_some hfr
              obtain ⟨x, rfl⟩ : ∃ x, l = [x] := List.length_eq_one_iff.1 hG.len.2
              have cT := Lib.hid (HO.out.Take HT.out hfr hG)
              have HGF := Lib.hid hG.gift
              clear hfr hG
              go_upto_region 16 with (go_at_call 12; refine cT.out.mono ?_; rintro e w5 ⟨rfl, ho⟩)
              have HO5 := Lib.hid ho
              have HX : Hid (Below w5.heap.size w5 (w5.alloc (.cells #[.int .u32 (x : Int)] 23))) := (Below.refl _ _).alloc (Nat.le_refl _) _
              have hcl : Hid ((w5.alloc (.cells #[.int .u32 (x : Int)] 23)).cell? ⟨w5.heap.size, 0, none⟩ = some (.int .u32 (x : Int))) := by unfold Hid; simp
              clear ho cT
              go_wp2_with (with_reducible refine wpList_append_one rfl (.tmp 59) (.tmp 61) _ rfl 23 Tryd.underlying34 (.int .u32 0) 4 u32info rfl (by omega) w5.heap.size none 0 0 [] rfl rfl (VO.nil _ _ _) w5.heap.size 1 (.int .u32 (x : Int)) rfl hcl.out rfl (by omega) HX.out.size ?_; intro A' c' w6 hd)
              have HO6 := Lib.hid (HO5.out.kept HT.out (HX.out.trans hd.out.below))
              have HU6 : Hid (UL w6 A' [x]) := UL.of_vo (c := c') (B := w5.heap.size) hd.out.vo
              go_meet
              exact ⟨A', c', 1, [x], t, t1, rfl, by omega, rfl, HO6, HGF, HU6⟩
            · have cT := Lib.hid (Take_full HO.out.pw (by omega))
              clear hfr
              go_wp2_with (go_at_call 12; refine cT.out.mono ?_; rintro e w' ⟨rfl, rfl⟩)
              go_meet
              exact ⟨none, 0, 0, [], t, t, rfl, by omega, rfl, HO, Gift.nil t, UL.nil _⟩
        by_cases kd3 : kd = 3
        · subst kd3
          as_aux_lemma =>
            by_cases hfr : 1 ≤ free t
            · obtain ⟨t1, l, hG⟩ := got_some hfr
              obtain ⟨x, rfl⟩ : ∃ x, l = [x] := List.length_eq_one_iff.1 hG.len.2
              have cT := Lib.hid (HO.out.Take HT.out hfr hG)
              have HGF := Lib.hid hG.gift
              clear hfr hG
              go_upto_region 16 with (go_at_call 12; refine cT.out.mono ?_; rintro e w5 ⟨rfl, ho⟩)
              have HO5 := Lib.hid ho
              have HX : Hid (Below w5.heap.size w5 (w5.alloc (.cells #[.int .u32 (x : Int)] 23))) := (Below.refl _ _).alloc (Nat.le_refl _) _
              have hcl : Hid ((w5.alloc (.cells #[.int .u32 (x : Int)] 23)).cell? ⟨w5.heap.size, 0, none⟩ = some (.int .u32 (x : Int))) := by unfold Hid; simp
              clear ho cT
              go_wp2_with (with_reducible refine wpList_append_one rfl (.tmp 59) (.tmp 61) _ rfl 23 Tryd.underlying34 (.int .u32 0) 4 u32info rfl (by omega) w5.heap.size none 0 0 [] rfl rfl (VO.nil _ _ _) w5.heap.size 1 (.int .u32 (x : Int)) rfl hcl.out rfl (by omega) HX.out.size ?_; intro A' c' w6 hd)
              have HO6 := Lib.hid (HO5.out.kept HT.out (HX.out.trans hd.out.below))
              have HU6 : Hid (UL w6 A' [x]) := UL.of_vo (c := c') (B := w5.heap.size) hd.out.vo
              go_meet
              exact ⟨A', c', 1, [x], t, t1, rfl, by omega, rfl, HO6, HGF, HU6⟩
            · have cT := Lib.hid (Take_full HO.out.pw (by omega))
              clear hfr
              go_wp2_with (go_at_call 12; refine cT.out.mono ?_; rintro e w' ⟨rfl, rfl⟩)
              go_meet
              exact ⟨none, 0, 0, [], t, t, rfl, by omega, rfl, HO, Gift.nil t, UL.nil _⟩
        by_cases kd2 : kd = 2
        · subst kd2
          as_aux_lemma =>
            by_cases hK : K < 0
            · have cP := Lib.hid (Grab_neg HO.out.pw K hK)
              go_wp2_with (go_at_call 13; refine cP.out.mono ?_; rintro e w' ⟨rfl, rfl⟩)
              go_meet
              exact ⟨none, 0, 0, [], t, t, rfl, by omega, rfl, HO, Gift.nil t, UL.nil _⟩
            by_cases hF : (free t : Int) < K
            · have cP := Lib.hid (Grab_full HO.out.pw K (by omega) hF)
              go_wp2_with (go_at_call 13; refine cP.out.mono ?_; rintro e w' ⟨rfl, rfl⟩)
              go_meet
              exact ⟨none, 0, 0, [], t, t, rfl, by omega, rfl, HO, Gift.nil t, UL.nil _⟩
            obtain ⟨mm, rfl⟩ : ∃ mm : Nat, K = mm := ⟨K.toNat, by omega⟩
            have hfr : mm ≤ free t := by omega
            have hm : mm ≤ 65536 := by have h1 : free t ≤ t.length := by (unfold free; omega)
                                       have := HO.out.lp
                                       omega
            obtain ⟨t1, l, hG⟩ := got_some hfr
            have HL := Lib.hid hG.len.2.symm
            have HGF := Lib.hid hG.gift
            have cP := Lib.hid (HO.out.Grab HT.out hfr hG)
            clear hfr hG hK hF
            go_wp2_with (go_at_call 13; refine cP.out.mono ?_; rintro e w6 ⟨c', rfl, ho, hu⟩; have HO6 := Lib.hid ho; have HU6 := Lib.hid hu; clear ho hu)
            go_meet
            exact ⟨some ⟨c', 0, none⟩, mm, mm, l, t, t1, rfl, hm, HL, HO6, HGF, HU6⟩
        by_cases kd4 : kd = 4
        · subst kd4
          as_aux_lemma =>
            have cG := Lib.hid (HO.out.Give HT.out hI32)
            by_cases hz : gvE t I = 0
            · obtain ⟨g1, g2, g3⟩ := gv_ok hz
              rw [hz, g3] at cG
              have HLN : Hid (I < n) := by unfold Hid; rw [← HO.out.lp]; exact g1
              have HV := Lib.hid g2
              clear hz g1 g2 g3
              go_upto_region 24 with (go_at_call 18; refine cG.out.mono ?_; rintro e w5 ⟨rfl, ho⟩)
              have HO5 := Lib.hid ho
              have e2 := cell_after HO5.out.pw.rw.bel HC2.out
              have hlk := HO5.out.mp.look (i := I) hI32
              rw [HV.out] at hlk
              clear ho cG d2'
              go_wp2_with (with_reducible refine wpList_delete_os rfl (.tmp 97) (.tmp 102) rfl rfl I rfl HO5.out HT.out HLN.out HV.out ?_; intro w6 ho6)
              go_meet
              exact ⟨none, 0, 0, [], t.set I false, t.set I false, rfl, by omega, rfl, ho6, Gift.nil _, UL.nil _⟩
            · have g3 := gv_no hz
              rw [g3] at cG
              have hz2 : (gvE t I == 0) = false := by simpa using hz
              generalize gvE t I = x1 at *
              clear hz g3
              go_wp2_with (go_at_call 18; refine cG.out.mono ?_; rintro e w5 ⟨rfl, ho⟩; have HO5 := Lib.hid ho; clear ho)
              go_meet
              exact ⟨none, 0, 0, [], t, t, rfl, by omega, rfl, HO5, Gift.nil t, UL.nil _⟩
        by_cases kd5 : kd = 5
        · subst kd5
          as_aux_lemma =>
            have cG := Lib.hid (HO.out.Give HT.out hI32)
            by_cases hz : gvE t I = 0
            · obtain ⟨g1, g2, g3⟩ := gv_ok hz
              rw [hz, g3] at cG
              have HLN : Hid (I < n) := by unfold Hid; rw [← HO.out.lp]; exact g1
              have HV := Lib.hid g2
              clear hz g1 g2 g3
              go_upto_region 24 with (go_at_call 18; refine cG.out.mono ?_; rintro e w5 ⟨rfl, ho⟩)
              have HO5 := Lib.hid ho
              have e2 := cell_after HO5.out.pw.rw.bel HC2.out
              have hlk := HO5.out.mp.look (i := I) hI32
              rw [HV.out] at hlk
              clear ho cG d2'
              go_wp2_with (with_reducible refine wpList_delete_os rfl (.tmp 97) (.tmp 102) rfl rfl I rfl HO5.out HT.out HLN.out HV.out ?_; intro w6 ho6)
              go_meet
              exact ⟨none, 0, 0, [], t.set I false, t.set I false, rfl, by omega, rfl, ho6, Gift.nil _, UL.nil _⟩
            · have g3 := gv_no hz
              rw [g3] at cG
              have hz2 : (gvE t I == 0) = false := by simpa using hz
              generalize gvE t I = x1 at *
              clear hz g3
              go_wp2_with (go_at_call 18; refine cG.out.mono ?_; rintro e w5 ⟨rfl, ho⟩; have HO5 := Lib.hid ho; clear ho)
              go_meet
              exact ⟨none, 0, 0, [], t, t, rfl, by omega, rfl, HO5, Gift.nil t, UL.nil _⟩
        as_aux_lemma =>
          have k0 : (kd == 0) = false := by simpa using kd0
          have k1' : (kd == 1) = false := by simpa using kd1
          have k2' : (kd == 2) = false := by simpa using kd2
          have k3' : (kd == 3) = false := by simpa using kd3
          have k4' : (kd == 4) = false := by simpa using kd4
          have k5' : (kd == 5) = false := by simpa using kd5
          clear kd0 kd1 kd2 kd3 kd4 kd5
          go_wp2_with fail
          go_meet
          exact ⟨none, 0, 0, [], t, t, rfl, by omega, rfl, HO, Gift.nil t, UL.nil _⟩
      case rest =>
      obtain ⟨A, c, mm, l, t', t1, rfl, hmm, HM, HO2, HG, HU⟩ := hcut
      clear HO HC2 d0' d1' d2'
      go_upto_block 3 with fail
      go_cut [15] (fun _ wx => Hid (Os w wx q g b m n t1 t1))
      case first =>
        as_aux_lemma =>
          go_wp2_with fail
          go_loopg [15] mm (fun gk i wr => ∃ kk : Nat, kk ≤ mm ∧ gk = mm - kk ∧ i = .int .i64 (kk : Int) ∧ Hid (Os w wr q g b m n t1 (setAll t' (l.take kk))) ∧ Hid (UL wr A l))
          case atStart => exact ⟨0, Nat.zero_le _, rfl, rfl, HO2, HU⟩
          case round =>
            obtain ⟨kk, hkk, rfl, rfl, HO3, HU3⟩ := hrel
            clear HU
            by_cases hlt : kk < mm
            · have hkl : kk < l.length := by rw [← HM.out]; exact hlt
              have hfresh := HG.out.1 kk hkl
              have hxn : l[kk] < n := by
                have := HG.out.2.2 _ (List.getElem_mem hkl)
                rw [HO2.out.lm] at this
                exact this
              obtain ⟨ab2, rfl, -, hcell⟩ := HU3.out (by omega)
              have hc := hcell kk hkl
              obtain ⟨w6, hst, ho6, hi6⟩ := HO3.out.store HT.out hxn hfresh
              rw [setAll_next t' l hkl] at ho6
              have HU6 := Lib.hid (HU3.out.map_kept HO3.out.mp hi6)
              have hlk := HO3.out.mp.look (i := l[kk]) (by omega)
              rw [hfresh] at hlk
              have HO6 := Lib.hid ho6
              have hwn : IntKind.u32.wrap (n : Int) = (n : Int) := by rw [IntKind.wrap_u32]; omega
              obtain ⟨x, hx⟩ : ∃ x, x = l[kk] := ⟨_, rfl⟩
              rw [← hx] at hc hst hlk hxn
              have hd : decide (n ≤ x) = false := by simp; omega
              clear hx hcell hfresh hi6 ho6 hkl
              go_wp2_with fail
              go_roundg (mm - (kk + 1))
              case measure => omega
              case rel => exact ⟨kk + 1, hlt, rfl, by go_num, HO6, HU6⟩
            · obtain rfl : kk = mm := by omega
              have HO4 : Hid (Os w wr q g b m n t1 t1) := by
                have := HO3.out
                rw [HM.out, List.take_length, HG.out.2.1] at this
                exact this
              go_wp2_with fail
              go_meet
              exact HO4
      case rest =>
        have HO9 : Hid (Os w wc q g b m n t1 t1) := hcut
        clear hcut HO2 HG HU HM
        as_aux_lemma =>
          have cH : Hid (Calls Tryd.prog 9 #[.pointer (some ⟨q, 0, none⟩)] wc fun e w' => e = .returned (.int .i64 (cnt t1 : Int)) ∧ wc = w') := Held_any HO9.out.pw
          have cF : Hid (Calls Tryd.prog 8 #[.pointer (some ⟨q, 0, none⟩)] wc fun e w' => e = .returned (.int .i64 (free t1 : Int)) ∧ wc = w') := Free_any HO9.out.pw
          have hlen := fun ty => HO9.out.mp.len_ ty
          have hsum : IntKind.i64.wrap ((free t1 : Int) + (cnt t1 : Int)) = (n : Int) := by
            have h1 := HO9.out.lp
            have h2 := cnt_le t1
            unfold free
            rw [IntKind.wrap_i64]; omega
          have hle : cnt t1 ≤ n := by have h1 := HO9.out.lp; have h2 := cnt_le t1; omega
          generalize cnt t1 = C at *
          generalize free t1 = F at *
          go_wp2_with (first
            | (go_at_call 9; refine cH.out.mono ?_; rintro e w' ⟨rfl, rfl⟩)
            | (go_at_call 8; refine cF.out.mono ?_; rintro e w' ⟨rfl, rfl⟩))
          go_roundg (N - (k + 1))
          case measure => omega
          case rel => exact ⟨k + 1, t1, by omega, by omega, rfl, by go_num, HO9⟩
    · by_cases h3 : k < N
      · have h4 : 100 ≤ k := by omega
        clear hlt
        go_wp2_with (go_at_call 7; refine (cA _ HO.out.pw.rw.tab).out.mono ?_; rintro e w' ⟨rfl, hb⟩; have HB := Lib.hid hb; clear hb)
        go_ret
        exact ⟨rfl, HO.out.pw.rw.bel.trans (HB.out.mono HO.out.pw.size)⟩
      · obtain rfl : k = N := by omega
        clear hlt h3
        go_wp2_with (go_at_call 7; refine (cA _ HO.out.pw.rw.tab).out.mono ?_; rintro e w' ⟨rfl, hb⟩; have HB := Lib.hid hb; clear hb)
        go_ret
        exact ⟨rfl, HO.out.pw.rw.bel.trans (HB.out.mono HO.out.pw.size)⟩
end Po
end Go.Proofs.YtndbbpdggggenaaDoor
