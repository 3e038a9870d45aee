/-
  SortM4, SortPh. Put together by pack.py.
-/
import Derived.Test.YtlabbmfiecbigaaPkAP
import Derived.Test.YtlabbmfiecbigaaPqSortP

namespace Go.Proofs.Ytlabbmfiecbigaa
open Go.RowKit
namespace St
open Mem Lx Bu
set_option maxRecDepth 100000 in
set_option maxHeartbeats 8000000 in
theorem symOneR_any {W w : World} {B g c n a m b : Nat} {L P U S : List Mg} {v : Mg} (h : SS W w B g c n L) (hL : L = P ++ (U ++ ([v] ++ S))) (ha : P.length = a) (hm : a + U.length = m) (hb : m + 1 = b) (hu : 2 ≤ U.length) (hU : Sd mk U) (hn : n ≤ 1000) :
    Calls Try.prog 75 #[.slice (some ⟨g, 0, none⟩) n c, .int .i64 (a : Int), .int .i64 (m : Int), .int .i64 (b : Int), .func (.func 70) #[] #[]] w fun e w' => e = .returned (.tuple #[]) ∧ ∃ X, SS W w' B g c n (P ++ (X ++ S)) ∧ Sd mk X ∧ Stb mk (U ++ [v]) X := by
  have hlen : b + S.length = n := by
    have := h.len
    rw [hL] at this
    simp at this
    omega
  have hbn : m < n := by omega
  have ham : a + 2 ≤ m := by omega
  have hpm : L[m]? = some v := by
    rw [hL, at_second (V := [v]) ha hm (Nat.le_refl _) (by simp), Nat.sub_self]
    rfl
  have HL := Lib.hid hL
  have HSP : Hid (∀ s, a ≤ s → s ≤ m → (s = a ∨ ∃ x, L[s - 1]? = some x ∧ ¬ cmpB (mk v) (mk x) < 0) → (s = m ∨ ∃ x, L[s]? = some x ∧ cmpB (mk v) (mk x) < 0) → ∃ U1 U2, U = U1 ++ U2 ∧ a + U1.length = s ∧ Sd mk (U1 ++ (v :: U2)) ∧ Stb mk (U ++ [v]) (U1 ++ (v :: U2))) := fun s h1 h2 h3 h4 => by
    rw [hL] at h3 h4
    exact one_right ha hm h1 h2 h3 h4 hU
  have HA := Lib.hid ha
  have HM := Lib.hid hm
  have HS0 := Lib.hid h
  have HU := Lib.hid hpm
  obtain ⟨dd, hdd⟩ : ∃ dd, dd = m - a := ⟨_, rfl⟩
  have hw0 : IntKind.i64.wrap ((m : Int) - (a : Int)) = (dd : Int) := by rw [IntKind.wrap_i64]; omega
  have hd0 : ((dd : Int) == 1) = false := by simp; omega
  have hwb : IntKind.i64.wrap ((b : Int) - (m : Int)) = 1 := by rw [IntKind.wrap_i64]; omega
  have hd1 : 1 < dd := by omega
  clear h hL ha hm hb hlen hpm hdd hu
  go_enter Try.func75, Try.ntmps75
  go_upto_block 4 with fail
  clear hw0 hwb hd0 hd1
  go_cut [14] (fun iv wx => ∃ s : Nat, iv = .int .i64 (s : Int) ∧ a ≤ s ∧ s ≤ m ∧ Hid (s = a ∨ ∃ x, L[s - 1]? = some x ∧ ¬ cmpB (mk v) (mk x) < 0) ∧ Hid (s = m ∨ ∃ x, L[s]? = some x ∧ cmpB (mk v) (mk x) < 0) ∧ Hid (SS W wx B g c n L))
  case first =>
    clear HSP
    go_wp2_with fail
    go_loopg [14, 15] (m - a) (fun gk iv jv wr => ∃ i j : Nat, a ≤ i ∧ i ≤ j ∧ j ≤ m ∧ gk = j - i ∧ iv = .int .i64 (i : Int) ∧ jv = .int .i64 (j : Int) ∧ Hid (i = a ∨ ∃ x, L[i - 1]? = some x ∧ ¬ cmpB (mk v) (mk x) < 0) ∧ Hid (j = m ∨ ∃ x, L[j]? = some x ∧ cmpB (mk v) (mk x) < 0) ∧ Hid (SS W wr B g c n L))
    case atStart => exact ⟨a, m, Nat.le_refl _, by omega, Nat.le_refl _, rfl, rfl, rfl, .inl rfl, .inl rfl, HS0⟩
    case round =>
      obtain ⟨i, j, h1, h2, h3, rfl, rfl, rfl, HI, HJ, HS⟩ := hrel
      clear HS0
      by_cases hij : i < j
      · obtain ⟨k, hk⟩ : ∃ k, k = (i + j) / 2 := ⟨_, rfl⟩
        have hk1 : i ≤ k := by omega
        have hk2 : k < j := by omega
        have hkn : k < n := by omega
        have hw1 : IntKind.i64.wrap ((i : Int) + (j : Int)) = (i : Int) + (j : Int) := by rw [IntKind.wrap_i64]; omega
        have hw2 : IntKind.i64.wrap ((k : Int) + 1) = ((k + 1 : Nat) : Int) := by rw [IntKind.wrap_i64]; omega
        have hq : ((i : Int) + (j : Int)) / 2 = (k : Int) := by omega
        have hw3 : IntKind.i64.wrap (k : Int) = (k : Int) := by rw [IntKind.wrap_i64]; omega
        have HQ := Lib.hid hq
        have HK := Lib.hid hk
        clear hk hq
        have hkL : k < L.length := by rw [HS.out.len]; exact hkn
        obtain ⟨x, hx⟩ : ∃ x, x = L[k] := ⟨_, rfl⟩
        have hx' := nat_len hkL
        rw [← hx] at hx'
        obtain ⟨c0, c1, c2⟩ := HS.out.cell hx'
        obtain ⟨d0, d1, d2⟩ := HS.out.cell HU.out
        have HX := Lib.hid hx'
        have cC := fun w => Lib.hid (cmpMsg_any v x w)
        clear hx hx' hkL
        go_upto_region 17 with fail
        rw [HQ.out]
        have x0 := fun t : Drift.Tide [] wr [] => Drift.Tide.cell c0 (by simp) t
        have x1 := fun t : Drift.Tide [] wr [] => Drift.Tide.cell c1 (by simp) t
        have x2 := fun t : Drift.Tide [] wr [] => Drift.Tide.cell c2 (by simp) t
        have y0 := fun t : Drift.Tide [] wr [] => Drift.Tide.cell d0 (by simp) t
        have y1 := fun t : Drift.Tide [] wr [] => Drift.Tide.cell d1 (by simp) t
        have y2 := fun t : Drift.Tide [] wr [] => Drift.Tide.cell d2 (by simp) t
        clear c0 c1 c2 d0 d1 d2
        refine Drift.wp_region_drift [] [(0,[]),(1,[]),(2,[]),(3,[]),(4,[]),(5,[]),(6,[]),(7,[]),(8,[]),(9,[]),(10,[]),(11,[])] [] [] (by kernel_rfl) (by kernel_rfl) (by simp) ?_
        simp only [Drift.pick, Drift.opsAt, List.getElem?_toArray, List.getElem?_cons_zero, List.getElem?_cons_succ, List.cons_append, List.nil_append, List.filterMap_nil]
        repeat (refine Drift.walk_step (fun K hK => ?_); go_simp; first | (refine hK _ ?_; clear hK K) | (apply Exists.intro; refine ⟨fun q => ?_, hK _ ?_⟩; (go_at_call 70; exact (cC _).out); clear hK K))
        refine Drift.walk_nil ?_
        intro w2 hb _
        have HS2 := Lib.hid (HS.out.kept hb)
        clear x0 x1 x2 y0 y1 y2 hb HS cC
        simp only [List.length_cons, List.length_nil, List.drop_succ_cons, List.drop_nil, Nat.zero_add, Nat.reduceAdd]
        obtain ⟨t, ht⟩ : ∃ t : Bool, t = !decide (cmpB v.1 x.1 < 0) := ⟨_, rfl⟩
        rw [← ht]
        cases t with
        | false =>
          have hc : cmpB v.1 x.1 < 0 := by simpa using ht
          clear ht
          have HJ2 : Hid (k = m ∨ ∃ x, L[k]? = some x ∧ cmpB (mk v) (mk x) < 0) := .inr ⟨x, HX.out, hc⟩
          generalize cmpB v.1 x.1 = z at *
          go_wp2_with fail
          go_roundg (k - i)
          case measure => omega
          case rel => exact ⟨i, k, h1, hk1, by omega, rfl, rfl, rfl, HI, HJ2, HS2⟩
        | true =>
          have hc : ¬ cmpB v.1 x.1 < 0 := by simpa using ht
          clear ht
          have HI2 : Hid (k + 1 = a ∨ ∃ x, L[k + 1 - 1]? = some x ∧ ¬ cmpB (mk v) (mk x) < 0) := .inr ⟨x, HX.out, hc⟩
          generalize cmpB v.1 x.1 = z at *
          go_wp2_with fail
          go_roundg (j - (k + 1))
          case measure => omega
          case rel => exact ⟨k + 1, j, by omega, by omega, h3, rfl, by go_num, rfl, HI2, HJ, HS2⟩
      · obtain rfl : i = j := by omega
        clear hij
        go_wp2_with fail
        go_meet
        exact ⟨i, rfl, h1, h3, HI, HJ, HS⟩
  case rest =>
  obtain ⟨s, rfl, h1, h2, HI, HJ, HS1⟩ := hcut
  obtain ⟨U1, U2, e1, e2, e3, e4⟩ := HSP.out s h1 h2 HI.out HJ.out
  have HPL : Hid ((P ++ U1).length = s) := by unfold Hid; rw [List.length_append, HA.out]; exact e2
  have HR0 : Hid (MvR (P ++ U1) U2 S L v m) := ⟨U2, [], by simp, by rw [HL.out, e1]; simp, by
    have h5 := HA.out
    have h6 := HM.out
    rw [e1] at h6
    rw [List.length_append] at h6 ⊢
    omega⟩
  have HX : Hid (Sd mk (U1 ++ (v :: U2)) ∧ Stb mk (U ++ [v]) (U1 ++ (v :: U2))) := ⟨e3, e4⟩
  clear HSP HI HJ HS0 e1 e2 e3 e4 HL HU
  go_wp2_with fail
  go_loopg [17] (m - s) (fun gk kv wr => ∃ (k : Nat) (L : List Mg), s ≤ k ∧ k ≤ m ∧ gk = k - s ∧ kv = .int .i64 (k : Int) ∧ Hid (MvR (P ++ U1) U2 S L v k) ∧ Hid (SS W wr B g c n L))
  case atStart => exact ⟨m, L, h2, Nat.le_refl _, rfl, rfl, HR0, HS1⟩
  case round =>
    obtain ⟨p, L, g1, g2, rfl, rfl, HR, HS⟩ := hrel
    clear HS1 HR0
    by_cases hpe : s < p
    · obtain ⟨q, hq⟩ : ∃ q, p = q + 1 := ⟨p - 1, by omega⟩
      have hs := HR.out
      rw [hq] at hs
      obtain ⟨d, hx, hy, hs⟩ := mvL_step hs (by rw [HPL.out]; omega)
      rw [← hq] at hx hs
      have HR2 := Lib.hid hs
      have hpn := HS.out.ltn hx
      have hqn := HS.out.ltn hy
      have hw1 : IntKind.i64.wrap ((p : Int) - 1) = (q : Int) := by rw [IntKind.wrap_i64]; omega
      have hne : p ≠ q := by omega
      have hne' : q ≠ p := by omega
      have hqs : s ≤ q := by omega
      have hpq : q < p := by omega
      obtain ⟨c0, c1, c2⟩ := HS.out.cell hx
      obtain ⟨d0, d1, d2⟩ := HS.out.cell hy
      have HX := Lib.hid hx
      have HY := Lib.hid hy
      clear hx hy hs hq HR
      go_upto_region 23 with fail
      have x0 := fun t : Drift.Tide [] wr [] => Drift.Tide.cell c0 (by simp) t
      have x1 := fun t : Drift.Tide [] wr [] => Drift.Tide.cell c1 (by simp) t
      have x2 := fun t : Drift.Tide [] wr [] => Drift.Tide.cell c2 (by simp) t
      have y0 := fun t : Drift.Tide [] wr [] => Drift.Tide.cell d0 (by simp) t
      have y1 := fun t : Drift.Tide [] wr [] => Drift.Tide.cell d1 (by simp) t
      have y2 := fun t : Drift.Tide [] wr [] => Drift.Tide.cell d2 (by simp) t
      clear c0 c1 c2 d0 d1 d2
      refine Drift.wp_region_drift_late [] [(0,[]),(1,[]),(2,[]),(3,[]),(4,[]),(5,[]),(6,[]),(7,[]),(8,[]),(9,[]),(10,[]),(11,[]),(12,[]),(13,[])] [] [] [2, 3, 4, 10, 11, 12] (by kernel_rfl) (by kernel_rfl) (by simp) ?_
      simp only [Drift.pick, Drift.opsAt, List.getElem?_toArray, List.getElem?_cons_zero, List.getElem?_cons_succ, List.cons_append, List.nil_append, List.filterMap_nil]
      repeat (refine Drift.walk_step (fun K hK => ?_); go_simp; (refine hK _ ?_; clear hK K))
      refine Drift.walk_clear rfl (.slice (some ⟨g, 0, none⟩) n c) (fun W => by go_simp) ?_
      refine Drift.walk_clear rfl (.int .i64 p) (fun W => by go_simp) ?_
      refine Drift.walk_clear rfl (.int .i64 q) (fun W => by go_simp) ?_
      repeat (refine Drift.walk_step (fun K hK => ?_); go_simp; (refine hK _ ?_; clear hK K))
      refine Drift.walk_clear rfl (.slice (some ⟨g, 0, none⟩) n c) (fun W => by go_simp) ?_
      refine Drift.walk_clear rfl (.int .i64 p) (fun W => by go_simp) ?_
      refine Drift.walk_clear rfl (.pointer (some ⟨g, p * 3, none⟩)) (fun W => by go_simp) ?_
      repeat (refine Drift.walk_step (fun K hK => ?_); go_simp; (refine hK _ ?_; clear hK K))
      refine Drift.walk_nil ?_
      intro w6 hb6 _
      clear x0 x1 x2 y0 y1 y2
      have h6 : SS W w6 B g c n L := HS.out.kept hb6
      have H7 := Lib.hid (h6.swap (x := v) (y := d) (p := p) (q := q) hpn hqn)
      have f := h6.free
      obtain ⟨c0, c1, c2⟩ := h6.cell HX.out
      obtain ⟨d0, d1, d2⟩ := h6.cell HY.out
      clear h6 hb6 HS
      simp only [List.length_cons, List.length_nil, List.drop_succ_cons, List.drop_zero, Nat.zero_add, Nat.reduceAdd]
      go_wp2_with fail
      rw [Flow.Nrm_normal]
      unfold stM at H7
      generalize (((((w6.setCell ⟨g, p * 3, none⟩ (.string d.1)).setCell ⟨g, p * 3 + 1, none⟩ (.bool d.2.1)).setCell ⟨g, p * 3 + 2, none⟩ (.string d.2.2)).setCell ⟨g, q * 3, none⟩ (.string v.1)).setCell ⟨g, q * 3 + 1, none⟩ (.bool v.2.1)).setCell ⟨g, q * 3 + 2, none⟩ (.string v.2.2) = w7 at *
      clear c0 c1 c2 d0 d1 d2 f
      go_wp2_with fail
      go_roundg (q - s)
      case measure => omega
      case rel => exact ⟨q, _, hqs, by omega, rfl, rfl, HR2, H7⟩
    · have HE := Lib.hid (mvL_end HR.out (by rw [HPL.out]; omega))
      obtain rfl : p = s := by omega
      have HF : Hid (SS W wr B g c n (P ++ ((U1 ++ (v :: U2)) ++ S))) := by
        have := HS.out
        rw [HE.out] at this
        simpa [Hid] using this
      clear HE HS HR hpe
      go_wp2_with fail
      exact bodyPost_ret (results_none rfl _ _ _) rfl ⟨rfl, _, HF.out, HX.out⟩
end St
end Go.Proofs.Ytlabbmfiecbigaa

namespace Go.Proofs.Ytlabbmfiecbigaa
namespace St
open Go.RowKit Lx Bu
section
variable {α : Type} (ke : α → ByteArray)
def Ph1 (L0 L : List α) (a : Nat) : Prop := ∃ k D R, L = D ++ R ∧ D.length = a ∧ a = 20 * k ∧ Bk ke 20 k D ∧ Stb ke L0 L
def Ph2 (L0 L : List α) (s : Nat) : Prop := ∃ k, Bk ke s k L ∧ Stb ke L0 L
def Ph3 (L0 L : List α) (s a : Nat) : Prop := ∃ k j D R, L = D ++ R ∧ D.length = a ∧ a = (s + s) * k ∧ Bk ke (s + s) k D ∧ Bk ke s j R ∧ Stb ke L0 L
variable {ke} {L0 L : List α} {a s : Nat}
theorem ph1_start : Ph1 ke L0 L0 0 := ⟨0, [], L0, rfl, rfl, rfl, rfl, Stb.refl _⟩
theorem ph1_step (h : Ph1 ke L0 L a) (hl : a + 20 ≤ L.length) : ∃ P U S, L = P ++ (U ++ S) ∧ P.length = a ∧ U.length = 20 ∧ ∀ X, Sd ke X → Stb ke U X → Ph1 ke L0 (P ++ (X ++ S)) (a + 20) := by
  obtain ⟨k, D, R, rfl, h1, h2, h3, h4⟩ := h
  rw [List.length_append] at hl
  have hU : (R.take 20).length = 20 := by rw [List.length_take]; omega
  refine ⟨D, R.take 20, R.drop 20, by rw [List.take_append_drop], h1, hU, fun X hX hs => ?_⟩
  have hx : X.length = 20 := hs.len.trans hU
  refine ⟨k + 1, D ++ X, R.drop 20, by simp, by rw [List.length_append]; omega, by omega, h3.snoc (by omega) hX (by omega), h4.trans ?_⟩
  have h5 := (Stb.refl (ke := ke) D).app (hs.app (Stb.refl (R.drop 20)))
  rw [List.take_append_drop] at h5
  exact h5
theorem ph1_end (h : Ph1 ke L0 L a) (hl : L.length < a + 20) : ∃ P U, L = P ++ (U ++ []) ∧ P.length = a ∧ a + U.length = L.length ∧ ∀ X, Sd ke X → Stb ke U X → Ph2 ke L0 (P ++ (X ++ [])) 20 := by
  obtain ⟨k, D, R, rfl, h1, h2, h3, h4⟩ := h
  rw [List.length_append] at hl
  refine ⟨D, R, by simp, h1, by rw [List.length_append]; omega, fun X hX hs => ?_⟩
  have hx := hs.len
  rw [List.append_nil]
  exact ⟨k + 1, h3.snoc (by omega) hX (by omega), h4.trans ((Stb.refl D).app hs)⟩
theorem ph3_start (h : Ph2 ke L0 L s) : Ph3 ke L0 L s 0 := by
  obtain ⟨k, h1, h2⟩ := h
  exact ⟨0, k, [], L, rfl, rfl, rfl, rfl, h1, h2⟩
theorem ph3_le (h : Ph3 ke L0 L s a) : a ≤ L.length := by
  obtain ⟨k, j, D, R, rfl, h1, _⟩ := h
  rw [List.length_append]
  omega
theorem ph3_step (h : Ph3 ke L0 L s a) (hl : a + (s + s) ≤ L.length) : ∃ P U V S, L = P ++ (U ++ (V ++ S)) ∧ P.length = a ∧ U.length = s ∧ V.length = s ∧ Sd ke U ∧ Sd ke V ∧ ∀ X, Sd ke X → Stb ke (U ++ V) X → Ph3 ke L0 (P ++ (X ++ S)) s (a + (s + s)) := by
  obtain ⟨k, j, D, R, rfl, h1, h2, h3, h4, h5⟩ := h
  rw [List.length_append] at hl
  have hU : (R.take s).length = s := by rw [List.length_take]; omega
  have hV : ((R.drop s).take s).length = s := by rw [List.length_take, List.length_drop]; omega
  refine ⟨D, R.take s, (R.drop s).take s, (R.drop s).drop s, by rw [List.take_append_drop, List.take_append_drop], h1, hU, hV, h4.first, h4.rest.first, fun X hX hs => ?_⟩
  have hx : X.length = s + s := by
    rw [hs.len, List.length_append, hU, hV]
  refine ⟨k + 1, j - 1 - 1, D ++ X, (R.drop s).drop s, by simp, by rw [List.length_append]; omega, by rw [Nat.mul_add, Nat.mul_one]; omega, h3.snoc (by omega) hX (by omega), h4.rest.rest, h5.trans ?_⟩
  have h6 := (Stb.refl (ke := ke) D).app (hs.app (Stb.refl ((R.drop s).drop s)))
  rw [List.append_assoc, List.take_append_drop, List.take_append_drop] at h6
  exact h6
theorem ph3_last (h : Ph3 ke L0 L s a) (hl : L.length < a + (s + s)) (hm : a + s < L.length) : ∃ P U V, L = P ++ (U ++ (V ++ [])) ∧ P.length = a ∧ U.length = s ∧ a + s + V.length = L.length ∧ Sd ke U ∧ Sd ke V ∧ ∀ X, Sd ke X → Stb ke (U ++ V) X → Ph2 ke L0 (P ++ (X ++ [])) (s + s) := by
  obtain ⟨k, j, D, R, rfl, h1, h2, h3, h4, h5⟩ := h
  rw [List.length_append] at hl hm
  have hU : (R.take s).length = s := by rw [List.length_take]; omega
  have hV : (R.drop s).length = R.length - s := List.length_drop
  refine ⟨D, R.take s, R.drop s, by rw [List.append_nil, List.take_append_drop], h1, hU, by rw [List.length_append]; omega, h4.first, h4.rest.all (by omega), fun X hX hs => ?_⟩
  have hx := hs.len
  rw [List.length_append, hU, hV] at hx
  rw [List.append_nil]
  refine ⟨k + 1, h3.snoc (by omega) hX (by omega), h5.trans ?_⟩
  have h6 := (Stb.refl (ke := ke) D).app hs
  rw [List.take_append_drop] at h6
  exact h6
theorem ph3_none (h : Ph3 ke L0 L s a) (hl : L.length ≤ a + s) : Ph2 ke L0 L (s + s) := by
  obtain ⟨k, j, D, R, rfl, h1, h2, h3, h4, h5⟩ := h
  rw [List.length_append] at hl
  exact ⟨k + 1, h3.snoc (by omega) (h4.all (by omega)) (by omega), h5⟩
theorem ph2_end (h : Ph2 ke L0 L s) (hl : L.length ≤ s) : Sd ke L ∧ Stb ke L0 L := by
  obtain ⟨k, h1, h2⟩ := h
  exact ⟨h1.all hl, h2⟩
end
end St
end Go.Proofs.Ytlabbmfiecbigaa
