/-
  The library's stable sort of messages: two neighbours in order, merged; where one of them has one alone.
-/
import Derived.Test.YtoibkjggfkkdhaaSortM2
namespace Go.Proofs.Ytoibkjggfkkdhaa
open Go.RowKit
namespace St
open Mem Lx Bu
set_option maxRecDepth 100000 in
set_option maxHeartbeats 8000000 in
theorem symOneL_any {W w : World} {B g c n a m b : Nat} {L P V S : List Mg} {u : Mg} (h : SS W w B g c n L) (hL : L = P ++ ([u] ++ (V ++ S))) (ha : P.length = a) (hm : a + 1 = m) (hb : m + V.length = b) (hV : Sd mk V) (hn : n ≤ 1000) :
    Calls Try.prog 43 #[.slice (some ⟨g, 0, none⟩) n c, .int .i64 (a : Int), .int .i64 (m : Int), .int .i64 (b : Int), .func (.func 37) #[] #[]] w fun e w' => e = .returned (.tuple #[]) ∧ ∃ X, SS W w' B g c n (P ++ (X ++ S)) ∧ Sd mk X ∧ Stb mk ([u] ++ V) X := by
  have hlen : b + S.length = n := by
    have := h.len
    rw [hL] at this
    simp at this
    omega
  have hbn : b ≤ n := by omega
  have hmb : m ≤ b := by omega
  have ham : a < m := by omega
  have hpa : L[a]? = some u := by
    rw [hL, at_first ha (Nat.le_refl _) (by simp), Nat.sub_self]
    rfl
  have HL := Lib.hid hL
  have HSP : Hid (∀ s, m ≤ s → s ≤ b → (s = m ∨ ∃ x, L[s - 1]? = some x ∧ cmpB (mk x) (mk u) < 0) → (s = b ∨ ∃ x, L[s]? = some x ∧ ¬ cmpB (mk x) (mk u) < 0) → ∃ V1 V2, V = V1 ++ V2 ∧ m + V1.length = s ∧ Sd mk (V1 ++ (u :: V2)) ∧ Stb mk ([u] ++ V) (V1 ++ (u :: V2))) := fun s h1 h2 h3 h4 => by
    rw [hL] at h3 h4
    exact one_left ha hm hb h1 h2 h3 h4 hV
  have HA := Lib.hid ha
  have HM := Lib.hid hm
  have HS0 := Lib.hid h
  have HU := Lib.hid hpa
  have hw0 : IntKind.i64.wrap ((m : Int) - (a : Int)) = 1 := by rw [IntKind.wrap_i64]; omega
  clear h hL ha hm hb hlen hpa
  go_enter Try.func43, Try.ntmps43
  go_upto_block 0 with fail
  clear hw0
  go_cut [10] (fun iv wx => ∃ s : Nat, iv = .int .i64 (s : Int) ∧ m ≤ s ∧ s ≤ b ∧ Hid (s = m ∨ ∃ x, L[s - 1]? = some x ∧ cmpB (mk x) (mk u) < 0) ∧ Hid (s = b ∨ ∃ x, L[s]? = some x ∧ ¬ cmpB (mk x) (mk u) < 0) ∧ Hid (SS W wx B g c n L))
  case first =>
    clear HSP
    go_wp2_with fail
    go_loopg [10, 11] (b - m) (fun gk iv jv wr => ∃ i j : Nat, m ≤ i ∧ i ≤ j ∧ j ≤ b ∧ gk = j - i ∧ iv = .int .i64 (i : Int) ∧ jv = .int .i64 (j : Int) ∧ Hid (i = m ∨ ∃ x, L[i - 1]? = some x ∧ cmpB (mk x) (mk u) < 0) ∧ Hid (j = b ∨ ∃ x, L[j]? = some x ∧ ¬ cmpB (mk x) (mk u) < 0) ∧ Hid (SS W wr B g c n L))
    case atStart => exact ⟨m, b, Nat.le_refl _, hmb, Nat.le_refl _, rfl, rfl, rfl, .inl rfl, .inl rfl, HS0⟩
    case round =>
      obtain ⟨i, j, h1, h2, h3, rfl, rfl, rfl, HI, HJ, HS⟩ := hrel
      clear HS0
      by_cases hij : i < j
      · obtain ⟨k, hk⟩ : ∃ k, k = (i + j) / 2 := ⟨_, rfl⟩
        have hk1 : i ≤ k := by omega
        have hk2 : k < j := by omega
        have hkn : k < n := by omega
        have hw1 : IntKind.i64.wrap ((i : Int) + (j : Int)) = (i : Int) + (j : Int) := by rw [IntKind.wrap_i64]; omega
        have hw2 : IntKind.i64.wrap ((k : Int) + 1) = ((k + 1 : Nat) : Int) := by rw [IntKind.wrap_i64]; omega
        have hq : ((i : Int) + (j : Int)) / 2 = (k : Int) := by omega
        have hw3 : IntKind.i64.wrap (k : Int) = (k : Int) := by rw [IntKind.wrap_i64]; omega
        have HQ := Lib.hid hq
        have HK := Lib.hid hk
        clear hk hq
        have hkL : k < L.length := by rw [HS.out.len]; exact hkn
        obtain ⟨x, hx⟩ : ∃ x, x = L[k] := ⟨_, rfl⟩
        have hx' := nat_len hkL
        rw [← hx] at hx'
        obtain ⟨c0, c1, c2⟩ := HS.out.cell hx'
        obtain ⟨d0, d1, d2⟩ := HS.out.cell HU.out
        have HX := Lib.hid hx'
        have cC := fun w => Lib.hid (cmpMsg_any x u w)
        have han : a < n := by omega
        clear hx hx' hkL
        go_upto_region 5 with fail
        rw [HQ.out]
        have x0 := fun t : Drift.Tide [] wr [] => Drift.Tide.cell c0 (by simp) t
        have x1 := fun t : Drift.Tide [] wr [] => Drift.Tide.cell c1 (by simp) t
        have x2 := fun t : Drift.Tide [] wr [] => Drift.Tide.cell c2 (by simp) t
        have y0 := fun t : Drift.Tide [] wr [] => Drift.Tide.cell d0 (by simp) t
        have y1 := fun t : Drift.Tide [] wr [] => Drift.Tide.cell d1 (by simp) t
        have y2 := fun t : Drift.Tide [] wr [] => Drift.Tide.cell d2 (by simp) t
        clear c0 c1 c2 d0 d1 d2
        refine Drift.wp_region_drift [] [(0,[]),(1,[]),(2,[]),(3,[]),(4,[]),(5,[]),(6,[]),(7,[]),(8,[]),(9,[]),(10,[])] [] [] (by kernel_rfl) (by kernel_rfl) (by simp) ?_
        simp only [Drift.pick, Drift.opsAt, List.getElem?_toArray, List.getElem?_cons_zero, List.getElem?_cons_succ, List.cons_append, List.nil_append, List.filterMap_nil]
        repeat (refine Drift.walk_step (fun K hK => ?_); go_simp; first | (refine hK _ ?_; clear hK K) | (apply Exists.intro; refine ⟨fun q => ?_, hK _ ?_⟩; (go_at_call 37; exact (cC _).out); clear hK K))
        refine Drift.walk_nil ?_
        intro w2 hb _
        have HS2 := Lib.hid (HS.out.kept hb)
        clear x0 x1 x2 y0 y1 y2 hb HS cC
        simp only [List.length_cons, List.length_nil, List.drop_succ_cons, List.drop_nil, Nat.zero_add, Nat.reduceAdd]
        by_cases hc : cmpB x.1 u.1 < 0
        · have HI2 : Hid (k + 1 = m ∨ ∃ x, L[k + 1 - 1]? = some x ∧ cmpB (mk x) (mk u) < 0) := .inr ⟨x, HX.out, hc⟩
          generalize cmpB x.1 u.1 = z at *
          go_wp2_with fail
          go_roundg (j - (k + 1))
          case measure => omega
          case rel => exact ⟨k + 1, j, by omega, by omega, h3, rfl, by go_num, rfl, HI2, HJ, HS2⟩
        · have HJ2 : Hid (k = b ∨ ∃ x, L[k]? = some x ∧ ¬ cmpB (mk x) (mk u) < 0) := .inr ⟨x, HX.out, hc⟩
          have hd2 : decide (cmpB x.1 u.1 < 0) = false := by simpa using hc
          generalize cmpB x.1 u.1 = z at *
          go_wp2_with fail
          go_roundg (k - i)
          case measure => omega
          case rel => exact ⟨i, k, h1, hk1, by omega, rfl, rfl, rfl, HI, HJ2, HS2⟩
      · obtain rfl : i = j := by omega
        clear hij
        go_wp2_with fail
        go_meet
        exact ⟨i, rfl, h1, h3, HI, HJ, HS⟩
  case rest =>
  obtain ⟨s, rfl, h1, h2, HI, HJ, HS1⟩ := hcut
  obtain ⟨V1, V2, e1, e2, e3, e4⟩ := HSP.out s h1 h2 HI.out HJ.out
  obtain ⟨e, he⟩ : ∃ e, e = s - 1 := ⟨_, rfl⟩
  have hse : e + 1 = s := by omega
  have hwe : IntKind.i64.wrap ((s : Int) - 1) = (e : Int) := by rw [IntKind.wrap_i64]; omega
  have hae : a ≤ e := by omega
  have hen : e < n := by omega
  have HR0 : Hid (MvR P V1 (V2 ++ S) L u a) := ⟨[], V1, rfl, by rw [HL.out, e1]; simp, by rw [HA.out]; rfl⟩
  have HPE : Hid (P.length + V1.length = e) := by
    have := HA.out
    have := HM.out
    unfold Hid
    omega
  have HX : Hid (Sd mk (V1 ++ (u :: V2)) ∧ Stb mk ([u] ++ V) (V1 ++ (u :: V2))) := ⟨e3, e4⟩
  clear HSP HI HJ HS0 e1 e2 e3 e4 he HL HU hse
  go_wp2_with fail
  go_loopg [13] (e - a) (fun gk kv wr => ∃ (k : Nat) (L : List Mg), a ≤ k ∧ k ≤ e ∧ gk = e - k ∧ kv = .int .i64 (k : Int) ∧ Hid (MvR P V1 (V2 ++ S) L u k) ∧ Hid (SS W wr B g c n L))
  case atStart => exact ⟨a, L, Nat.le_refl _, hae, rfl, rfl, HR0, HS1⟩
  case round =>
    obtain ⟨p, L, g1, g2, rfl, rfl, HR, HS⟩ := hrel
    clear HS1 HR0
    by_cases hpe : p < e
    · obtain ⟨d, hx, hy, hs⟩ := mvR_step HR.out (by rw [HPE.out]; exact hpe)
      obtain ⟨q, hq⟩ : ∃ q, q = p + 1 := ⟨_, rfl⟩
      rw [← hq] at hy hs
      have HR2 := Lib.hid hs
      have hpn := HS.out.ltn hx
      have hqn := HS.out.ltn hy
      have hw1 : IntKind.i64.wrap ((p : Int) + 1) = (q : Int) := by rw [IntKind.wrap_i64]; omega
      have hne : p ≠ q := by omega
      have hne' : q ≠ p := by omega
      have hqe : q ≤ e := by omega
      have hpq : p < q := by omega
      obtain ⟨c0, c1, c2⟩ := HS.out.cell hx
      obtain ⟨d0, d1, d2⟩ := HS.out.cell hy
      have HX := Lib.hid hx
      have HY := Lib.hid hy
      clear hx hy hs hq HR
      go_upto_region 11 with fail
      have x0 := fun t : Drift.Tide [] wr [] => Drift.Tide.cell c0 (by simp) t
      have x1 := fun t : Drift.Tide [] wr [] => Drift.Tide.cell c1 (by simp) t
      have x2 := fun t : Drift.Tide [] wr [] => Drift.Tide.cell c2 (by simp) t
      have y0 := fun t : Drift.Tide [] wr [] => Drift.Tide.cell d0 (by simp) t
      have y1 := fun t : Drift.Tide [] wr [] => Drift.Tide.cell d1 (by simp) t
      have y2 := fun t : Drift.Tide [] wr [] => Drift.Tide.cell d2 (by simp) t
      clear c0 c1 c2 d0 d1 d2
      refine Drift.wp_region_drift_late [] [(0,[]),(1,[]),(2,[]),(3,[]),(4,[]),(5,[]),(6,[]),(7,[]),(8,[]),(9,[]),(10,[]),(11,[]),(12,[]),(13,[])] [] [] [2, 3, 4, 10, 11, 12] (by kernel_rfl) (by kernel_rfl) (by simp) ?_
      simp only [Drift.pick, Drift.opsAt, List.getElem?_toArray, List.getElem?_cons_zero, List.getElem?_cons_succ, List.cons_append, List.nil_append, List.filterMap_nil]
      repeat (refine Drift.walk_step (fun K hK => ?_); go_simp; (refine hK _ ?_; clear hK K))
      refine Drift.walk_clear rfl (.slice (some ⟨g, 0, none⟩) n c) (fun W => by go_simp) ?_
      refine Drift.walk_clear rfl (.int .i64 p) (fun W => by go_simp) ?_
      refine Drift.walk_clear rfl (.int .i64 q) (fun W => by go_simp) ?_
      repeat (refine Drift.walk_step (fun K hK => ?_); go_simp; (refine hK _ ?_; clear hK K))
      refine Drift.walk_clear rfl (.slice (some ⟨g, 0, none⟩) n c) (fun W => by go_simp) ?_
      refine Drift.walk_clear rfl (.int .i64 p) (fun W => by go_simp) ?_
      refine Drift.walk_clear rfl (.pointer (some ⟨g, p * 3, none⟩)) (fun W => by go_simp) ?_
      repeat (refine Drift.walk_step (fun K hK => ?_); go_simp; (refine hK _ ?_; clear hK K))
      refine Drift.walk_nil ?_
      intro w6 hb6 _
      clear x0 x1 x2 y0 y1 y2
      have h6 : SS W w6 B g c n L := HS.out.kept hb6
      have H7 := Lib.hid (h6.swap (x := u) (y := d) (p := p) (q := q) hpn hqn)
      have f := h6.free
      obtain ⟨c0, c1, c2⟩ := h6.cell HX.out
      obtain ⟨d0, d1, d2⟩ := h6.cell HY.out
      clear h6 hb6 HS
      simp only [List.length_cons, List.length_nil, List.drop_succ_cons, List.drop_zero, Nat.zero_add, Nat.reduceAdd]
      go_wp2_with fail
      rw [Flow.Nrm_normal]
      unfold stM at H7
      generalize (((((w6.setCell ⟨g, p * 3, none⟩ (.string d.1)).setCell ⟨g, p * 3 + 1, none⟩ (.bool d.2.1)).setCell ⟨g, p * 3 + 2, none⟩ (.string d.2.2)).setCell ⟨g, q * 3, none⟩ (.string u.1)).setCell ⟨g, q * 3 + 1, none⟩ (.bool u.2.1)).setCell ⟨g, q * 3 + 2, none⟩ (.string u.2.2) = w7 at *
      clear c0 c1 c2 d0 d1 d2 f
      go_wp2_with fail
      go_roundg (e - q)
      case measure => omega
      case rel => exact ⟨q, _, by omega, hqe, rfl, rfl, HR2, H7⟩
    · have HE := Lib.hid (mvR_end HR.out (by rw [HPE.out]; omega))
      obtain rfl : p = e := by omega
      have HF : Hid (SS W wr B g c n (P ++ ((V1 ++ (u :: V2)) ++ S))) := by
        have := HS.out
        rw [HE.out] at this
        simpa [Hid] using this
      clear HE HS HR hpe
      go_wp2_with fail
      exact bodyPost_ret (results_none rfl _ _ _) rfl ⟨rfl, _, HF.out, HX.out⟩
end St
end Go.Proofs.Ytoibkjggfkkdhaa
