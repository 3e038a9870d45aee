/-
  ChainPlays, walked: the loop.
-/
import Derived.Test.YtokgnnmnnjfjbaaChainPlays
import Derived.Deep.DeepCutAuto
import Derived.Deep.CutBlock
namespace Go.Proofs.Ytokgnnmnnjfjbaa
open Go.RowKit
namespace Cn
open Mem

set_option maxHeartbeats 16000000 in
set_option maxRecDepth 100000 in
theorem ChainPlays_in (n : Nat) (q : Option Addr) (d : Nat) (ac : List (Int × Int)) (ask : Int) (w : World) (h0 : 1 ≤ n) (h1 : n ≤ 4096) (ha : ActL w q ac) (hda : ac.length ≤ maxLen) :
    Calls Try.prog 3 #[.int .i64 (n : Int), .slice q ac.length d, .int .i64 ask] w fun e w' => e = .returned (.bool true) ∧ Below w.heap.size w w' := by
  have cA := fun w => Lib.hid (awake_any w)
  have cN := Lib.hid (New_cr w w (Below.refl _ _) n h0 h1)
  unfold maxLen at hda
  obtain ⟨N, hN⟩ : ∃ N, N = ac.length := ⟨_, rfl⟩
  rw [← hN] at hda ⊢
  have HNN := Lib.hid hN
  have HAL := Lib.hid ha
  clear hN ha
  go_enter Try.func3, Try.ntmps3
  go_wp2_with (go_at_call 6; refine cN.out.mono ?_; rintro e w1 ⟨g, b, rfl, hr, -⟩; have HR := Lib.hid hr; clear hr)
  clear cN
  have HP0 : Hid (Ps w (w1.alloc (.cells #[] 3)) g b n 0 [] [] (some ⟨w1.heap.size, 0, none⟩)) := by
    have hb : Below w1.heap.size w1 (w1.alloc (.cells #[] 3)) := (Below.refl _ _).alloc (Nat.le_refl _) _
    have hlt := HR.out.ch.lt
    exact ⟨HR.out.kept hb, IL.nil _ _, fun a ha => by obtain rfl : a = _ := (Option.some.inj ha).symm; simp; omega, rfl, by omega⟩
  clear HR
  go_loopg [9, 10] N (fun gk v i wr => ∃ (k m c : Nat) (l : List Nat) (A : Option Addr), k ≤ N ∧ gk = N - k ∧ i = .int .i64 k ∧ v = .slice A m c ∧ Hid (Ps w wr g b n m l l A))
  case atStart => exact ⟨0, 0, 0, [], _, Nat.zero_le _, rfl, rfl, rfl, HP0⟩
  case round =>
    obtain ⟨k, m, c, l, A, hk, rfl, rfl, rfl, HP⟩ := hrel
    clear HP0
    by_cases hlt : k < N ∧ k < 80
    · obtain ⟨k1, k2⟩ := hlt
      obtain ⟨ab, o, rfl, hc0, hc1⟩ := HAL.out.at_ (show k < ac.length by rw [← HNN.out]; exact k1)
      obtain ⟨kd, hkd⟩ : ∃ kd, kd = (ac[k]'(by rw [← HNN.out]; exact k1)).1 := ⟨_, rfl⟩
      obtain ⟨x, hx⟩ : ∃ x, x = (ac[k]'(by rw [← HNN.out]; exact k1)).2 := ⟨_, rfl⟩
      rw [← hkd] at hc0
      rw [← hx] at hc1
      have d0 := cell_after HP.out.cr.bel hc0
      have d1 := cell_after HP.out.cr.bel hc1
      have hm9 := HP.out.hm
      clear hkd hx hc0 hc1 cA
      go_upto_region 11 with fail
      go_cut [12] (fun s12 wx => s12 = .bool (inN n x) ∧ wx = wr)
      case first =>
        have hx5 : inN n x = (decide (0 ≤ x) && decide (x < (n : Int))) := rfl
        by_cases hx0 : 0 ≤ x
        · by_cases hx1 : x < (n : Int)
          · have hx6 : inN n x = true := by rw [hx5]; simp [hx0, hx1]
            clear hx5
            go_wp2_with fail
            go_meet
            exact ⟨by rw [hx6], rfl⟩
          · have hx2 : (n : Int) ≤ x := by omega
            have hx4 : decide (x < (n : Int)) = false := by simp; omega
            have hx6 : inN n x = false := by rw [hx5, hx4]; simp
            clear hx1 hx5
            go_wp2_with fail
            go_meet
            exact ⟨by rw [hx6], rfl⟩
        · have hx2 : x < 0 := by omega
          have hx4 : decide (0 ≤ x) = false := by simp; omega
          have hx6 : inN n x = false := by rw [hx5, hx4]; simp
          clear hx0 hx5
          go_wp2_with fail
          go_meet
          exact ⟨by rw [hx6], rfl⟩
      case rest =>
      obtain ⟨rfl, rfl⟩ := hcut
      go_upto_if 69 with fail
      go_cut [12, 13] (fun s12 s13 wx => s12 = .bool (inN n x) ∧ s13 = .int .i64 (errE n x) ∧ wx = wc)
      case first =>
        have hE : errE n x = if inN n x then 0 else 4 := rfl
        cases hin : inN n x with
        | true =>
          rw [hin] at hE
          simp only [if_true] at hE
          go_wp2_with fail
          go_meet
          exact ⟨by rw [hin], by rw [hE], rfl⟩
        | false =>
          rw [hin] at hE
          simp only [Bool.false_eq_true, if_false] at hE
          go_wp2_with fail
          go_meet
          exact ⟨by rw [hin], by rw [hE], rfl⟩
      case rest =>
      obtain ⟨rfl, rfl, rfl⟩ := hcut
      go_upto_block 2 with fail
      go_cut [9, 12, 13, 14] (fun v _ why got wx => ∃ (m' c' : Nat) (E : Int) (l' : List Nat) (A' : Option Addr), v = .slice A' m' c' ∧ why = .int .i64 E ∧ got = .int .i64 E ∧ Hid (Ps w wx g b n m' l' l' A'))
      case first =>
        by_cases kd0 : kd = 0
        · subst kd0
          cases hin : inN n x with
          | true =>
            obtain ⟨x, rfl, hxn⟩ := inN_nat hin
            have hE9 : errE n (x : Int) = 0 := by unfold errE; rw [hin]; rfl
            have hT : fronT n l (x : Int) = x :: del l x := by unfold fronT; rw [hin]; rfl
            have cF := Lib.hid (HP.out.Front x)
            rw [hE9, hT] at cF
            rw [hE9]
            have hlen : (x :: del l x).length ≤ 4096 := by
              have h9 := HP.out.cr.ch.lt
              refine Nat.le_trans (len_nodup n (x :: del l x) ?_ ?_) h1
              · exact List.nodup_cons.2 ⟨del_notin l x, h9.2.2.2.2.2.2.1.filter _⟩
              · intro y hy; rcases List.mem_cons.1 hy with hy | hy
                · omega
                · exact h9.2.2.2.2.2.2.2 y (List.mem_filter.1 hy).1
            have cG : ∀ u c, Ps w u g b n m (x :: del l x) l A → Hid (Calls Try.prog 9 #[.slice A m c, .int .i64 (x : Int)] u fun e w' => ∃ A' c', e = .returned (.slice A' (x :: del l x).length c') ∧ Ps w w' g b n (x :: del l x).length (x :: del l x) (x :: del l x) A') := fun u c h => h.RFront c hlen
            generalize x :: del l x = l' at *
            obtain ⟨m', hm'⟩ : ∃ m', m' = l'.length := ⟨_, rfl⟩
            rw [← hm'] at cG hlen
            clear hE9 hT hm'
            go_wp2_with (first
              | (go_at_call 8; refine cF.out.mono ?_; rintro e w1 ⟨rfl, hp⟩; have HP1 := Lib.hid hp; clear hp cF)
              | (go_at_call 9; refine (cG _ _ HP1.out).out.mono ?_; rintro e w2 ⟨A2, c2, rfl, hp⟩; have HQ := Lib.hid hp; clear hp cG))
            go_meet
            exact ⟨m', c2, 0, l', A2, rfl, rfl, rfl, HQ⟩
          | false =>
            have hE9 : errE n x = 4 := by unfold errE; rw [hin]; rfl
            have hTT : fronT n l x = l := by unfold fronT; rw [hin]; rfl
            have cF := Lib.hid (HP.out.Front x)
            rw [hE9, hTT] at cF
            rw [hE9]
            clear hE9 hTT
            go_wp2_with (first
              | (go_at_call 8; refine cF.out.mono ?_; rintro e w1 ⟨rfl, hp⟩; have HQ := Lib.hid hp; clear hp cF))
            go_meet
            exact ⟨m, c, 4, l, A, rfl, rfl, rfl, HQ⟩
        by_cases kd1 : kd = 1
        · subst kd1
          cases hin : inN n x with
          | true =>
            obtain ⟨x, rfl, hxn⟩ := inN_nat hin
            have hE9 : errE n (x : Int) = 0 := by unfold errE; rw [hin]; rfl
            have hT : fronT n l (x : Int) = x :: del l x := by unfold fronT; rw [hin]; rfl
            have cF := Lib.hid (HP.out.Front x)
            rw [hE9, hT] at cF
            rw [hE9]
            have hlen : (x :: del l x).length ≤ 4096 := by
              have h9 := HP.out.cr.ch.lt
              refine Nat.le_trans (len_nodup n (x :: del l x) ?_ ?_) h1
              · exact List.nodup_cons.2 ⟨del_notin l x, h9.2.2.2.2.2.2.1.filter _⟩
              · intro y hy; rcases List.mem_cons.1 hy with hy | hy
                · omega
                · exact h9.2.2.2.2.2.2.2 y (List.mem_filter.1 hy).1
            have cG : ∀ u c, Ps w u g b n m (x :: del l x) l A → Hid (Calls Try.prog 9 #[.slice A m c, .int .i64 (x : Int)] u fun e w' => ∃ A' c', e = .returned (.slice A' (x :: del l x).length c') ∧ Ps w w' g b n (x :: del l x).length (x :: del l x) (x :: del l x) A') := fun u c h => h.RFront c hlen
            generalize x :: del l x = l' at *
            obtain ⟨m', hm'⟩ : ∃ m', m' = l'.length := ⟨_, rfl⟩
            rw [← hm'] at cG hlen
            clear hE9 hT hm'
            go_wp2_with (first
              | (go_at_call 8; refine cF.out.mono ?_; rintro e w1 ⟨rfl, hp⟩; have HP1 := Lib.hid hp; clear hp cF)
              | (go_at_call 9; refine (cG _ _ HP1.out).out.mono ?_; rintro e w2 ⟨A2, c2, rfl, hp⟩; have HQ := Lib.hid hp; clear hp cG))
            go_meet
            exact ⟨m', c2, 0, l', A2, rfl, rfl, rfl, HQ⟩
          | false =>
            have hE9 : errE n x = 4 := by unfold errE; rw [hin]; rfl
            have hTT : fronT n l x = l := by unfold fronT; rw [hin]; rfl
            have cF := Lib.hid (HP.out.Front x)
            rw [hE9, hTT] at cF
            rw [hE9]
            clear hE9 hTT
            go_wp2_with (first
              | (go_at_call 8; refine cF.out.mono ?_; rintro e w1 ⟨rfl, hp⟩; have HQ := Lib.hid hp; clear hp cF))
            go_meet
            exact ⟨m, c, 4, l, A, rfl, rfl, rfl, HQ⟩
        by_cases kd2 : kd = 2
        · subst kd2
          cases hin : inN n x with
          | true =>
            obtain ⟨x, rfl, hxn⟩ := inN_nat hin
            have hE9 : errE n (x : Int) = 0 := by unfold errE; rw [hin]; rfl
            have hT : backT n l (x : Int) = del l x ++ [x] := by unfold backT; rw [hin]; rfl
            have cF := Lib.hid (HP.out.Back x)
            rw [hE9, hT] at cF
            rw [hE9]
            have hlen : (del l x ++ [x]).length ≤ 4096 := by
              have h9 := HP.out.cr.ch.lt
              refine Nat.le_trans (len_nodup n (del l x ++ [x]) ?_ ?_) h1
              · exact List.nodup_append.2 ⟨h9.2.2.2.2.2.2.1.filter _, by simp, fun u hu v hv e => by simp at hv; subst hv e; exact del_notin l _ hu⟩
              · intro y hy; rcases List.mem_append.1 hy with hy | hy
                · exact h9.2.2.2.2.2.2.2 y (List.mem_filter.1 hy).1
                · simp at hy; omega
            have cG : ∀ u c, Ps w u g b n m (del l x ++ [x]) l A → Hid (Calls Try.prog 11 #[.slice A m c, .int .i64 (x : Int)] u fun e w' => ∃ A' c', e = .returned (.slice A' (del l x ++ [x]).length c') ∧ Ps w w' g b n (del l x ++ [x]).length (del l x ++ [x]) (del l x ++ [x]) A') := fun u c h => h.RBack c hlen
            generalize del l x ++ [x] = l' at *
            obtain ⟨m', hm'⟩ : ∃ m', m' = l'.length := ⟨_, rfl⟩
            rw [← hm'] at cG hlen
            clear hE9 hT hm'
            go_wp2_with (first
              | (go_at_call 10; refine cF.out.mono ?_; rintro e w1 ⟨rfl, hp⟩; have HP1 := Lib.hid hp; clear hp cF)
              | (go_at_call 11; refine (cG _ _ HP1.out).out.mono ?_; rintro e w2 ⟨A2, c2, rfl, hp⟩; have HQ := Lib.hid hp; clear hp cG))
            go_meet
            exact ⟨m', c2, 0, l', A2, rfl, rfl, rfl, HQ⟩
          | false =>
            have hE9 : errE n x = 4 := by unfold errE; rw [hin]; rfl
            have hTT : backT n l x = l := by unfold backT; rw [hin]; rfl
            have cF := Lib.hid (HP.out.Back x)
            rw [hE9, hTT] at cF
            rw [hE9]
            clear hE9 hTT
            go_wp2_with (first
              | (go_at_call 10; refine cF.out.mono ?_; rintro e w1 ⟨rfl, hp⟩; have HQ := Lib.hid hp; clear hp cF))
            go_meet
            exact ⟨m, c, 4, l, A, rfl, rfl, rfl, HQ⟩
        by_cases kd3 : kd = 3
        · subst kd3
          cases hin : inN n x with
          | true =>
            obtain ⟨x, rfl, hxn⟩ := inN_nat hin
            have hE9 : errE n (x : Int) = 0 := by unfold errE; rw [hin]; rfl
            have hTT : cutT n l (x : Int) = del l x := by unfold cutT; rw [hin]; rfl
            have hlen : (del l x).length ≤ 4096 := Nat.le_trans (List.length_filter_le _ _) (by have := HP.out.len; omega)
            rw [hE9]
            clear hE9
            cases hhs : hasR l (x : Int) with
            | true =>
              have hE : cutE n l (x : Int) = 0 := by unfold cutE; rw [hin, hhs]; rfl
              have cF := Lib.hid (HP.out.Cut x)
              rw [hE, hTT] at cF
              have cH : ∀ u c L, Ps w u g b n m L l A → Hid (Calls Try.prog 13 #[.slice A m c, .int .i64 (x : Int)] u fun e w' => e = .returned (.bool true) ∧ u = w') := fun u c L h => by have := h.RHas c (x : Int); rw [hhs] at this; exact this
              have cG : ∀ u c, Ps w u g b n m (del l x) l A → Hid (Calls Try.prog 14 #[.slice A m c, .int .i64 (x : Int)] u fun e w' => ∃ A' c', e = .returned (.slice A' (del l x).length c') ∧ Ps w w' g b n (del l x).length (del l x) (del l x) A') := fun u c h => h.RCut c hlen
              generalize del l x = l' at *
              obtain ⟨m', hm'⟩ : ∃ m', m' = l'.length := ⟨_, rfl⟩
              rw [← hm'] at cG hlen
              clear hE hTT hm' hhs
              go_wp2_with (first
                | (go_at_call 12; refine cF.out.mono ?_; rintro e w1 ⟨rfl, hp⟩; have HP1 := Lib.hid hp; clear hp cF)
                | (go_at_call 13; refine (cH _ _ _ HP1.out).out.mono ?_; rintro e w8 ⟨rfl, rfl⟩; clear cH)
                | (go_at_call 14; refine (cG _ _ HP1.out).out.mono ?_; rintro e w2 ⟨A2, c2, rfl, hp⟩; have HQ := Lib.hid hp; clear hp cG))
              go_meet
              exact ⟨m', c2, 0, l', A2, rfl, rfl, rfl, HQ⟩
            | false =>
              have hE : cutE n l (x : Int) = 9 := by unfold cutE; rw [hin, hhs]; rfl
              have cF := Lib.hid (HP.out.Cut x)
              rw [hE, hTT] at cF
              have cH : ∀ u c L, Ps w u g b n m L l A → Hid (Calls Try.prog 13 #[.slice A m c, .int .i64 (x : Int)] u fun e w' => e = .returned (.bool false) ∧ u = w') := fun u c L h => by have := h.RHas c (x : Int); rw [hhs] at this; exact this
              have cG : ∀ u c, Ps w u g b n m (del l x) l A → Hid (Calls Try.prog 14 #[.slice A m c, .int .i64 (x : Int)] u fun e w' => ∃ A' c', e = .returned (.slice A' (del l x).length c') ∧ Ps w w' g b n (del l x).length (del l x) (del l x) A') := fun u c h => h.RCut c hlen
              generalize del l x = l' at *
              obtain ⟨m', hm'⟩ : ∃ m', m' = l'.length := ⟨_, rfl⟩
              rw [← hm'] at cG hlen
              clear hE hTT hm' hhs
              go_wp2_with (first
                | (go_at_call 12; refine cF.out.mono ?_; rintro e w1 ⟨rfl, hp⟩; have HP1 := Lib.hid hp; clear hp cF)
                | (go_at_call 13; refine (cH _ _ _ HP1.out).out.mono ?_; rintro e w8 ⟨rfl, rfl⟩; clear cH)
                | (go_at_call 14; refine (cG _ _ HP1.out).out.mono ?_; rintro e w2 ⟨A2, c2, rfl, hp⟩; have HQ := Lib.hid hp; clear hp cG))
              go_meet
              exact ⟨m', c2, 9, l', A2, rfl, rfl, rfl, HQ⟩
          | false =>
            have hE9 : errE n x = 4 := by unfold errE; rw [hin]; rfl
            have hE : cutE n l x = 4 := by unfold cutE; rw [hin]; rfl
            have hTT : cutT n l x = l := by unfold cutT; rw [hin]; rfl
            have cF := Lib.hid (HP.out.Cut x)
            rw [hE, hTT] at cF
            rw [hE9]
            clear hE9 hTT hE
            go_wp2_with (first
              | (go_at_call 12; refine cF.out.mono ?_; rintro e w1 ⟨rfl, hp⟩; have HQ := Lib.hid hp; clear hp cF))
            go_meet
            exact ⟨m, c, 4, l, A, rfl, rfl, rfl, HQ⟩
        have n0 : (kd == 0) = false := by simpa using kd0
        have n1 : (kd == 1) = false := by simpa using kd1
        have n2 : (kd == 2) = false := by simpa using kd2
        have n3 : (kd == 3) = false := by simpa using kd3
        clear kd0 kd1 kd2 kd3
        have HQ := HP
        generalize errE n x = E9
        go_wp2_with fail
        go_meet
        exact ⟨m, c, E9, l, A, rfl, rfl, rfl, HQ⟩
      case rest =>
      obtain ⟨m', c', E, l', A', rfl, rfl, rfl, HQ⟩ := hcut
      have hm9' := HQ.out.hm
      clear HP hm9 d0 d1
      by_cases hp0 : 0 < m'
      · skip
        obtain ⟨va, vz, vv, hb8, o8, rfl, hT8, qc⟩ := HQ.out.tell_pos hp0 ask
        have T := Lib.hid hT8
        obtain ⟨m8, hm8⟩ : ∃ m8, m8 = m' - 1 := ⟨_, rfl⟩
        have hm7 : ((m' : Nat) : Int) - 1 = (m8 : Int) := by omega
        have hm6 : m8 < m' := by omega
        have hm5 : (0 : Int) < ((m' : Nat) : Int) := by omega
        rw [← hm8] at qc
        clear hm8 hT8
        go_upto_region 34 with (first
          | (go_at_call 15; refine (T.out.fi _ HQ.out).mono ?_; rintro e w3 ⟨rfl, hp⟩; have HQ3 := Lib.hid hp; clear hp)
          | (go_at_call 16; refine (T.out.la _ HQ3.out).mono ?_; rintro e w4 ⟨rfl, hp⟩; have HQ4 := Lib.hid hp; clear hp))
        simp only [List.append]
        go_wp2_with (first
          | (go_at_call 18; refine (HQ4.out.Row).mono ?_; rintro e w5 ⟨A5, c5, rfl, hl5, hp⟩; have HL5 := Lib.hid hl5; have HQ5 := Lib.hid hp; clear hp hl5)
          | (go_at_call 17; refine (HQ5.out.Same _ c5 A5 HL5.out).mono ?_; rintro e w6 ⟨rfl, hp⟩; have HQ6 := Lib.hid hp; clear hp; have d8 := (qc _ HQ6.out).1; have d9 := (qc _ HQ6.out).2)
          | (go_at_call 19; refine (T.out.le _ HQ6.out).mono ?_; rintro e w7 ⟨rfl, rfl⟩)
          | (go_at_call 20; refine (T.out.ha _ HQ6.out).mono ?_; rintro e w7 ⟨rfl, rfl⟩)
          | (go_at_call 13; refine (T.out.rh _ _ HQ6.out).mono ?_; rintro e w7 ⟨rfl, rfl⟩))
        go_roundg (N - (k + 1))
        case measure => omega
        case rel => exact ⟨k + 1, m', c', l', _, k1, rfl, by go_num, rfl, HQ6⟩
      · skip
        obtain rfl : m' = 0 := by omega
        obtain ⟨vv, hT8⟩ := HQ.out.tell_nil rfl ask
        have T := Lib.hid hT8
        clear hp0 hT8
        go_upto_region 34 with (first
          | (go_at_call 15; refine (T.out.fi _ HQ.out).mono ?_; rintro e w3 ⟨rfl, hp⟩; have HQ3 := Lib.hid hp; clear hp)
          | (go_at_call 16; refine (T.out.la _ HQ3.out).mono ?_; rintro e w4 ⟨rfl, hp⟩; have HQ4 := Lib.hid hp; clear hp))
        simp only [List.append]
        go_wp2_with (first
          | (go_at_call 18; refine (HQ4.out.Row).mono ?_; rintro e w5 ⟨A5, c5, rfl, hl5, hp⟩; have HL5 := Lib.hid hl5; have HQ5 := Lib.hid hp; clear hp hl5)
          | (go_at_call 17; refine (HQ5.out.Same _ c5 A5 HL5.out).mono ?_; rintro e w6 ⟨rfl, hp⟩; have HQ6 := Lib.hid hp; clear hp)
          | (go_at_call 19; refine (T.out.le _ HQ6.out).mono ?_; rintro e w7 ⟨rfl, rfl⟩)
          | (go_at_call 20; refine (T.out.ha _ HQ6.out).mono ?_; rintro e w7 ⟨rfl, rfl⟩)
          | (go_at_call 13; refine (T.out.rh _ _ HQ6.out).mono ?_; rintro e w7 ⟨rfl, rfl⟩))
        go_roundg (N - (k + 1))
        case measure => omega
        case rel => exact ⟨k + 1, 0, c', l', _, k1, rfl, by go_num, rfl, HQ6⟩
    · by_cases h3 : k < N
      · have h4 : 80 ≤ k := by omega
        clear hlt
        go_wp2_with (go_at_call 7; refine (cA _).out.mono ?_; rintro e w' ⟨rfl, hb⟩; have HB := Lib.hid hb; clear hb)
        go_ret
        exact ⟨rfl, HP.out.cr.bel.trans (HB.out.mono HP.out.cr.bel.size)⟩
      · obtain rfl : k = N := by omega
        clear hlt h3
        go_wp2_with (go_at_call 7; refine (cA _).out.mono ?_; rintro e w' ⟨rfl, hb⟩; have HB := Lib.hid hb; clear hb)
        go_ret
        exact ⟨rfl, HP.out.cr.bel.trans (HB.out.mono HP.out.cr.bel.size)⟩
end Cn
end Go.Proofs.Ytokgnnmnnjfjbaa
