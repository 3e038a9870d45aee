/-
  The library's stable sort of messages: insertion.
-/
import Derived.Test.YtoibkjggfkkdhaaSortM
import Derived.StillTailTactics
import Derived.Deep.QuietTactic
namespace Go.Proofs.Ytoibkjggfkkdhaa
open Go.RowKit
namespace St
open Mem Lx Bu
set_option maxRecDepth 100000 in
set_option maxHeartbeats 4000000 in
theorem insertion_any {W w : World} {B g c n a b : Nat} {L P U S : List Mg} (h : SS W w B g c n L) (hL : L = P ++ (U ++ S)) (ha : P.length = a) (hb : a + U.length = b) (hn : n ≤ 1000) :
    Calls Try.prog 42 #[.slice (some ⟨g, 0, none⟩) n c, .int .i64 (a : Int), .int .i64 (b : Int), .func (.func 37) #[] #[]] w fun e w' => e = .returned (.tuple #[]) ∧ ∃ X, SS W w' B g c n (P ++ (X ++ S)) ∧ Sd mk X ∧ Stb mk U X := by
  have hlen : b + S.length = n := by
    have := h.len
    rw [hL] at this
    simp at this
    omega
  have H0 : Hid (InsO mk P U S L 1) := by
    subst hL
    exact insO_start
  obtain ⟨N, hN⟩ : ∃ N, N = U.length := ⟨_, rfl⟩
  have HEN : Hid (∀ (L : List Mg) (k : Nat), InsO mk P U S L k → N ≤ k → ∃ X, L = P ++ (X ++ S) ∧ Sd mk X ∧ Stb mk U X) := fun L k h hk => insO_end h (by omega)
  have HIS : Hid (∀ (L : List Mg) (k : Nat), InsO mk P U S L k → k < N → InsI mk P U S L k k) := fun L k h hk => insI_start h (by omega)
  have HIP : Hid (∀ (L : List Mg) (k j : Nat), InsI mk P U S L k (j + 1) → ∃ x y, L[a + j + 1]? = some x ∧ L[a + j]? = some y ∧ (¬ cmpB (mk x) (mk y) < 0 → InsO mk P U S L (k + 1)) ∧ (cmpB (mk x) (mk y) < 0 → InsI mk P U S ((L.set (a + j + 1) y).set (a + j) x) k j)) := fun L k j h => insI_pair h ha
  have HS0 := Lib.hid h
  have hbN : a + N = b := by omega
  have hbn : b ≤ n := by omega
  clear h hL ha hb hlen hN
  go_enter Try.func42, Try.ntmps42
  have hw1 : IntKind.i64.wrap ((a : Int) + 1) = ((a + 1 : Nat) : Int) := by rw [IntKind.wrap_i64]; omega
  go_wp2_with fail
  clear hw1
  go_loopg [8] (N - 1) (fun gk iv wr => ∃ (k i : Nat) (L : List Mg), 1 ≤ k ∧ (k ≤ N ∨ k = 1) ∧ gk = N - k ∧ Hid (i = a + k) ∧ iv = .int .i64 (i : Int) ∧ Hid (InsO mk P U S L k) ∧ Hid (SS W wr B g c n L))
  case atStart => exact ⟨1, a + 1, L, Nat.le_refl _, .inr rfl, rfl, rfl, by go_num, H0, HS0⟩
  case round =>
    obtain ⟨k, i, L, hk1, hkN, rfl, hi, rfl, HO, HS⟩ := hrel
    clear H0 HS0
    by_cases hk : k < N
    · have hib : i < b := by have := hi.out; omega
      have hia : a < i := by have := hi.out; omega
      have hin : i < n := by omega
      go_upto_block 1 with fail
      go_cut [8] (fun iv wx => iv = .int .i64 (i : Int) ∧ Hid (∃ L, InsO mk P U S L (k + 1) ∧ SS W wx B g c n L))
      case first =>
        obtain ⟨wo, rfl⟩ : ∃ wo : World, wo = wr := ⟨_, rfl⟩
        have HI := Lib.hid (HIS.out L k HO.out hk)
        have HS1 := HS
        clear HO HS
        go_wp2_with fail
        go_loopg [9] k (fun gk jv wx => ∃ (p : Nat) (L : List Mg), gk ≤ k ∧ Hid (p = a + gk) ∧ jv = .int .i64 (p : Int) ∧ Hid (InsI mk P U S L k gk) ∧ Hid (SS W wx B g c n L))
        case atStart => exact ⟨i, L, Nat.le_refl _, hi, rfl, HI, HS1⟩
        case round =>
          obtain ⟨p, L, hj, hp, rfl, HR, HS⟩ := hrel
          clear HI HS1
          by_cases h0 : gk = 0
          · subst h0
            obtain rfl : p = a := by have := hp.out; omega
            have HZ := Lib.hid (insI_zero HR.out)
            clear HR hj
            have hd : decide ((p : Int) > (p : Int)) = false := by simp
            go_upto_region 4 with fail
            go_quiet (fail)
            go_wp2_with fail
            go_meet
            exact ⟨rfl, L, HZ.out, HS.out.drew _⟩
          · obtain ⟨j, rfl⟩ : ∃ j, gk = j + 1 := ⟨gk - 1, by omega⟩
            obtain ⟨x, y, hx, hy, hge, hlt⟩ := HIP.out L k j HR.out
            obtain ⟨q, hq⟩ : ∃ q, q = a + j := ⟨_, rfl⟩
            rw [show a + j + 1 = p by have := hp.out; omega] at hx hlt
            rw [show a + j = q by omega] at hy hlt
            have hpn := HS.out.ltn hx
            have hqn := HS.out.ltn hy
            have hpq : p = q + 1 := by have := hp.out; omega
            have hpa : a < p := by omega
            have hw1 : IntKind.i64.wrap ((p : Int) - 1) = (q : Int) := by rw [IntKind.wrap_i64]; omega
            have hd : decide ((p : Int) > (a : Int)) = true := by simp; omega
            obtain ⟨c0, c1, c2⟩ := HS.out.cell hx
            obtain ⟨d0, d1, d2⟩ := HS.out.cell hy
            have HX := Lib.hid hx
            have HY := Lib.hid hy
            have cC := fun w => Lib.hid (cmpMsg_any x y w)
            have HP := Lib.hid hpq
            have HQ := Lib.hid hq
            clear hx hy hp hq hpq HR h0
            go_upto_region 4 with fail
            have x0 := fun t : Drift.Tide [] wr [] => Drift.Tide.cell c0 (by simp) t
            have x1 := fun t : Drift.Tide [] wr [] => Drift.Tide.cell c1 (by simp) t
            have x2 := fun t : Drift.Tide [] wr [] => Drift.Tide.cell c2 (by simp) t
            have y0 := fun t : Drift.Tide [] wr [] => Drift.Tide.cell d0 (by simp) t
            have y1 := fun t : Drift.Tide [] wr [] => Drift.Tide.cell d1 (by simp) t
            have y2 := fun t : Drift.Tide [] wr [] => Drift.Tide.cell d2 (by simp) t
            clear c0 c1 c2 d0 d1 d2
            refine Drift.wp_region_drift [] [(0,[]),(1,[]),(2,[]),(3,[]),(4,[]),(5,[]),(6,[]),(7,[]),(8,[]),(9,[]),(10,[]),(11,[]),(12,[]),(13,[]),(14,[]),(15,[]),(16,[])] [] [] (by kernel_rfl) (by kernel_rfl) (by simp) ?_
            simp only [Drift.pick, Drift.opsAt, List.getElem?_toArray, List.getElem?_cons_zero, List.getElem?_cons_succ, List.cons_append, List.nil_append, List.filterMap_nil]
            repeat (refine Drift.walk_step (fun K hK => ?_); go_simp; first | (refine hK _ ?_; clear hK K) | (apply Exists.intro; refine ⟨fun q => ?_, hK _ ?_⟩; (go_at_call 37; exact (cC _).out); clear hK K))
            refine Drift.walk_nil ?_
            intro w2 hb _
            have HS2 := Lib.hid (HS.out.kept hb)
            clear x0 x1 x2 y0 y1 y2 hb HS cC
            simp only [List.length_cons, List.length_nil, List.drop_succ_cons, List.drop_nil, Nat.zero_add, Nat.reduceAdd]
            have HS := HS2
            clear HS2
            by_cases hc : cmpB x.1 y.1 < 0
            · have HI := Lib.hid (hlt hc)
              generalize cmpB x.1 y.1 = z at *
              clear hge hlt
              go_upto_region 6 with fail
              obtain ⟨c0, c1, c2⟩ := HS.out.cell HX.out
              obtain ⟨d0, d1, d2⟩ := HS.out.cell HY.out
              have hne : p ≠ q := by have := HP.out; omega
              have hne' : q ≠ p := by have := HP.out; omega
              have x0 := fun t : Drift.Tide [] w2 [] => Drift.Tide.cell c0 (by simp) t
              have x1 := fun t : Drift.Tide [] w2 [] => Drift.Tide.cell c1 (by simp) t
              have x2 := fun t : Drift.Tide [] w2 [] => Drift.Tide.cell c2 (by simp) t
              have y0 := fun t : Drift.Tide [] w2 [] => Drift.Tide.cell d0 (by simp) t
              have y1 := fun t : Drift.Tide [] w2 [] => Drift.Tide.cell d1 (by simp) t
              have y2 := fun t : Drift.Tide [] w2 [] => Drift.Tide.cell d2 (by simp) t
              clear c0 c1 c2 d0 d1 d2
              refine Drift.wp_region_drift_late [] [(0,[]),(1,[]),(2,[]),(3,[]),(4,[]),(5,[]),(6,[]),(7,[]),(8,[]),(9,[]),(10,[]),(11,[]),(12,[]),(13,[])] [] [] [2, 3, 4, 10, 11, 12] (by kernel_rfl) (by kernel_rfl) (by simp) ?_
              simp only [Drift.pick, Drift.opsAt, List.getElem?_toArray, List.getElem?_cons_zero, List.getElem?_cons_succ, List.cons_append, List.nil_append, List.filterMap_nil]
              repeat (refine Drift.walk_step (fun K hK => ?_); go_simp; (refine hK _ ?_; clear hK K))
              refine Drift.walk_clear rfl (.slice (some ⟨g, 0, none⟩) n c) (fun W => by go_simp) ?_
              refine Drift.walk_clear rfl (.int .i64 p) (fun W => by go_simp) ?_
              refine Drift.walk_clear rfl (.int .i64 q) (fun W => by go_simp) ?_
              repeat (refine Drift.walk_step (fun K hK => ?_); go_simp; (refine hK _ ?_; clear hK K))
              refine Drift.walk_clear rfl (.slice (some ⟨g, 0, none⟩) n c) (fun W => by go_simp) ?_
              refine Drift.walk_clear rfl (.int .i64 p) (fun W => by go_simp) ?_
              refine Drift.walk_clear rfl (.pointer (some ⟨g, p * 3, none⟩)) (fun W => by go_simp) ?_
              repeat (refine Drift.walk_step (fun K hK => ?_); go_simp; (refine hK _ ?_; clear hK K))
              refine Drift.walk_nil ?_
              intro w6 hb6 _
              clear x0 x1 x2 y0 y1 y2
              have h6 : SS W w6 B g c n L := HS.out.kept hb6
              have H7 := Lib.hid (h6.swap (x := x) (y := y) (p := p) (q := q) hpn hqn)
              have f := h6.free
              obtain ⟨c0, c1, c2⟩ := h6.cell HX.out
              obtain ⟨d0, d1, d2⟩ := h6.cell HY.out
              clear h6 hb6 HS
              simp only [List.length_cons, List.length_nil, List.drop_succ_cons, List.drop_zero, Nat.zero_add, Nat.reduceAdd]
              go_wp2_with fail
              rw [Flow.Nrm_normal]
              unfold stM at H7
              generalize (((((w6.setCell ⟨g, p * 3, none⟩ (.string y.1)).setCell ⟨g, p * 3 + 1, none⟩ (.bool y.2.1)).setCell ⟨g, p * 3 + 2, none⟩ (.string y.2.2)).setCell ⟨g, q * 3, none⟩ (.string x.1)).setCell ⟨g, q * 3 + 1, none⟩ (.bool x.2.1)).setCell ⟨g, q * 3 + 2, none⟩ (.string x.2.2) = w7 at *
              clear c0 c1 c2 d0 d1 d2 f
              go_wp2_with fail
              go_roundg j
              case measure => omega
              case rel => exact ⟨q, _, by omega, HQ.out, rfl, HI, H7⟩
            · have HZ := Lib.hid (hge (Int.not_lt.1 hc))
              have hd2 : decide (cmpB x.1 y.1 < 0) = false := by simpa using hc
              generalize cmpB x.1 y.1 = z at *
              clear hge hlt
              go_wp2_with fail
              go_meet
              exact ⟨rfl, L, HZ.out, HS.out⟩
      case rest =>
      obtain ⟨rfl, HC⟩ := hcut
      obtain ⟨L', HO', HS'⟩ := HC.out
      have HO2 := Lib.hid HO'
      have HS2 := Lib.hid HS'
      clear HC HO' HS' HO HS
      have hw1 : IntKind.i64.wrap ((i : Int) + 1) = ((i + 1 : Nat) : Int) := by rw [IntKind.wrap_i64]; omega
      go_wp2_with fail
      go_roundg (N - (k + 1))
      case measure => omega
      case rel => exact ⟨k + 1, i + 1, L', by omega, .inl hk, rfl, by unfold Hid; have := hi.out; omega, by go_num, HO2, HS2⟩
    · obtain ⟨X, e, s1, s2⟩ := HEN.out L k HO.out (by omega)
      have HX : Hid (SS W wr B g c n (P ++ (X ++ S)) ∧ Sd mk X ∧ Stb mk U X) := ⟨by rw [← e]; exact HS.out, s1, s2⟩
      have hge : b ≤ i := by have := hi.out; omega
      have hd : decide ((i : Int) < (b : Int)) = false := by simp; omega
      clear e s1 s2 HO HS hk HEN HIS HIP
      go_wp2_with fail
      go_end0
      exact ⟨rfl, X, HX.out⟩
set_option maxRecDepth 100000 in
set_option maxHeartbeats 2000000 in
theorem insertion_nil (c : Nat) (w : World) : Calls Try.prog 42 #[.slice none 0 c, .int .i64 0, .int .i64 0, .func (.func 37) #[] #[]] w fun e w' => e = .returned (.tuple #[]) ∧ w' = w := by
  go_enter Try.func42, Try.ntmps42
  go_wp2_with fail
  go_loopg [8] 0 (fun gk iv wr => gk = 0 ∧ iv = .int .i64 1 ∧ wr = w)
  case atStart => exact ⟨rfl, rfl, rfl⟩
  case round =>
    obtain ⟨rfl, rfl, rfl⟩ := hrel
    go_wp2_with fail
    go_end0
    exact ⟨rfl, rfl⟩
end St
end Go.Proofs.Ytoibkjggfkkdhaa
