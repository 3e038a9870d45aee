/-
  Contracts of the document's reader: Num, Text, End.
-/
import Derived.Test.YtkambkdpppgjpaaWordRef
namespace Go.Proofs.Ytkambkdpppgjpaa
open Go.RowKit
namespace Wd
open Mem

/-- what the document's Num tells -/
def RNumd (w : World) (s : St) (x : Nat) (e : Ending) : Prop := ∃ v : Value, e = .returned (.tuple #[v, .int .u64 (x : Int)]) ∧ RV w v s

set_option maxHeartbeats 1000000 in
theorem RNum_any (v : Value) (s : St) (n : Int) (w : World) (h : RV w v s) :
    Calls Try.prog 14 #[v, .int .i64 n] w fun e w' => RNumd w' (numS s n).1 (numS s n).2 e ∧ Below w.heap.size w w' := by
  have HOK := Lib.hid h.ok
  have HV := Lib.hid h
  have cW := fun w => Lib.hid (RWidth_any n w)
  have hlen := take_len s n
  obtain ⟨A, c, rfl, hb, hc, hl, _⟩ := h
  clear hb hc hl
  cases hw : isW n with
  | false =>
    rw [hw] at cW
    have HS := Lib.hid (show numS s n = (spoilS s 2, 0) by simp [numS, hw])
    have cS := fun v w h => Lib.hid (Rspoil_any v s 2 w h)
    clear hw hlen
    go_enter Try.func14, Try.ntmps14
    go_wp2_with (first
      | (go_at_call 11; refine (cW _).out.mono ?_; rintro e w' ⟨rfl, rfl⟩)
      | (go_at_call 28; refine (cS _ _ (HV.out.keep (below_box2 _ _ _ _ _))).out.mono ?_; rintro e w1 ⟨rfl, hb⟩; obtain ⟨c0', c1', f0', f1', d0', d1', g0', g1'⟩ := box_facts hb; have HB := Lib.hid hb; clear hb))
    refine bodyPost_ret (v := .tuple #[.agg #[.slice none 0 0, .int .i64 (spoilS s 2).e], .int .u64 0]) (by simp [results, Try.results14, go_sem, d0', d1']) rfl ⟨?_, below_set2 (below_trans' (below_box2 _ _ _ _ _) HB.out) (by omega) _ _⟩
    rw [HS.out]
    exact ⟨_, rfl, rv_spoilt _ HOK.out 2⟩
  | true =>
    rw [hw] at cW
    have HS := Lib.hid (show numS s n = ((takeS s n).1, val (takeS s n).2) by simp [numS, hw])
    have hn : n ≤ 8 := by have := isW_cases hw; omega
    have h8 : (takeS s n).2.length ≤ 8 := by split at hlen <;> omega
    have cR := fun v w h => Lib.hid (RRaw_any v s n w h)
    obtain ⟨t, ht⟩ : ∃ t, t = (takeS s n).2 := ⟨_, rfl⟩
    rw [← ht] at h8 cR HS
    obtain ⟨m, hm⟩ : ∃ m, m = t.length := ⟨_, rfl⟩
    rw [← hm] at h8
    have HT := Lib.hid ht
    have HM := Lib.hid hm
    clear hw hlen hn ht hm
    go_enter Try.func14, Try.ntmps14
    go_wp2_with (first
      | (go_at_call 11; refine (cW _).out.mono ?_; rintro e w' ⟨rfl, rfl⟩)
      | (go_at_call 16; refine (cR _ _ (HV.out.keep (below_box2 _ _ _ _ _))).out.mono ?_; rintro e w1 ⟨⟨v', A2, c2, he, hrv, hbl, hlc⟩, hb⟩; rw [← HM.out] at he hlc; subst he; have HRV := Lib.hid hrv; obtain ⟨A1, c1, rfl, hbl1, _⟩ := hrv; obtain ⟨c0', c1', f0', f1', d0', d1', g0', g1'⟩ := box_facts hb; have HB := Lib.hid hb; have HBL := Lib.hid (bl_set2 hbl c0' c1' (.slice A1 (takeS s n).1.b.length c1) (.int .i64 (takeS s n).1.e)); clear hb hbl hbl1))
    go_loop [7, 8] (fun x i => ∃ (k v : Nat), k ≤ m ∧ i = .int .i64 k ∧ x = .int .u64 (v : Int) ∧ Hid (v = val (t.take k))) (fun _ i => m - (intOf i).toNat)
    case atStart => exact ⟨0, 0, Nat.zero_le _, rfl, rfl, rfl⟩
    case round =>
      obtain ⟨k, v, hk, rfl, rfl, HV1⟩ := hrel
      by_cases hlt : k < m
      · have hkl : k < t.length := by rw [← HM.out]; exact hlt
        obtain ⟨b, o, rfl, hc⟩ := HBL.out.at_ hkl
        have hv : v < 72057594037927936 := by rw [HV1.out]; exact val_take_lt t k hkl (by rw [← HM.out]; exact h8)
        have hy : t[k].toNat < 256 := t[k].toNat_lt
        have HN : Hid (256 * v + t[k].toNat = val (t.take (k + 1))) := by
          unfold Hid
          rw [List.take_succ_eq_append_getElem hkl, val_snoc, HV1.out]
        generalize t[k].toNat = y at hc hy HN
        clear hkl
        go_wp2
        exact ⟨⟨k + 1, 256 * v + y, hlt, by go_num, by simp, HN⟩, by simp [intOf]; omega⟩
      · obtain rfl : k = m := by omega
        go_wp2
        have hall := HV1.out
        rw [List.take_of_length_le (by rw [HM.out]; exact Nat.le_refl _)] at hall
        refine bodyPost_ret (v := .tuple #[.agg #[.slice A1 (takeS s n).1.b.length c1, .int .i64 (takeS s n).1.e], .int .u64 (v : Int)]) (by simp [results, Try.results14, go_sem, c0', c1', d0', d1']) rfl ⟨?_, below_set2 (below_set2 (below_trans' (below_box2 _ _ _ _ _) HB.out) (Nat.le_refl _) _ _) (by omega) _ _⟩
        rw [HS.out, ← hall]
        exact ⟨_, rfl, (HRV.out.set2 c0' c1' _ _).set2 ((set2_cell (by omega) _ _).trans d0') ((set2_cell (by omega) _ _).trans d1') _ _⟩

/-- what the document's Text tells -/
def RTextd (w : World) (s : St) (t : List UInt8) (e : Ending) : Prop := ∃ v : Value, e = .returned (.tuple #[v, .string (strOf t)]) ∧ RV w v s

theorem Rzeros_at (p : Option Addr) (c : Nat) (l : List UInt8) (n : Nat) (hn : l.length = n) (w : World) (h : BL w p l) (hl : n ≤ 140737488355328) :
    Calls Try.prog 31 #[.slice p n c] w fun e w' => e = .returned (.bool (zeroB l)) ∧ w = w' := by subst hn; exact Rzeros_any p c l w h hl

theorem text_spoilt (s : St) (hok : s.ok) {n m : Int} (h : ¬ (n < 0 ∨ m < n)) (he : (takeS s m).1.e ≠ 0) : textS s n m = ((takeS s m).1, []) := by
  have ht := take_none he hok
  unfold textS
  rw [if_neg h, ht]
  split
  · rfl
  · simp [zeroB]

theorem block_lt_of {w : World} {g : Nat} {o : Obj} (h : w.heap[g]? = some o) : g < w.heap.size := (Array.getElem?_eq_some_iff.1 h).1
theorem bl_but {S : List Nat} {w : World} {A : Option Addr} {l : List UInt8} (h : BL w A l) (hn : 0 < l.length → ∀ a, A = some a → a.block ∉ S) (q : Flow.But) : BL (Flow.but S w q) A l :=
  h.keep fun hl a ha => (Flow.into_but S w q).block _ (h.lt hl a ha) (hn hl a ha)

theorem into_set2 {S : List Nat} {w : World} {g : Nat} (hg : g ∈ S) (x y : Value) : Flow.Into S w ((w.setCell ⟨g, 0, none⟩ x).setCell ⟨g, 1, none⟩ y) :=
  ⟨rfl, rfl, rfl, by simp [World.setCell], fun k _ hn => by
    have hne : k ≠ g := fun e => hn (e ▸ hg)
    rw [Below.heap_setCell _ _ _ _ (show k ≠ g from hne), Below.heap_setCell _ _ _ _ (show k ≠ g from hne)]⟩

set_option maxHeartbeats 2000000 in
theorem RText_any (v : Value) (s : St) (n m : Int) (w : World) (h : RV w v s) :
    Calls Try.prog 18 #[v, .int .i64 n, .int .i64 m] w fun e w' => RTextd w' (textS s n m).1 (textS s n m).2 e ∧ Below w.heap.size w w' := by
  have hok := h.ok
  have HOK := Lib.hid hok
  have HV := Lib.hid h
  have hL := rv_bound h m
  obtain ⟨A, c, rfl, hb, hc, hl, _⟩ := h
  clear hb hc hl
  by_cases h0 : n < 0 ∨ m < n
  · have HS := Lib.hid (text_arg s h0)
    have cS := fun v w h => Lib.hid (Rspoil_any v s 2 w h)
    clear hL hok
    rcases (show n < 0 ∨ (0 ≤ n ∧ m < n) by omega) with h1 | ⟨h1, h2⟩
    all_goals
      clear h0
      go_enter Try.func18, Try.ntmps18
      go_wp2_with (go_at_call 28; refine (cS _ _ (HV.out.keep (below_box2 _ _ _ _ _))).out.mono ?_; rintro e w1 ⟨rfl, hb⟩; obtain ⟨c0', c1', f0', f1', d0', d1', g0', g1'⟩ := box_facts hb; have HB := Lib.hid hb; clear hb)
      refine bodyPost_ret (v := .tuple #[.agg #[.slice none 0 0, .int .i64 (spoilS s 2).e], .string (strOf [])]) (by simp [results, Try.results18, go_sem, d0', d1', strOf]) rfl ⟨?_, below_set2 (below_trans' (below_box2 _ _ _ _ _) HB.out) (by omega) _ _⟩
      rw [HS.out]
      exact ⟨_, rfl, rv_spoilt _ HOK.out 2⟩
  · obtain ⟨k, rfl⟩ : ∃ k : Nat, n = k := ⟨n.toNat, by omega⟩
    obtain ⟨j, rfl⟩ : ∃ j : Nat, m = j := ⟨m.toNat, by omega⟩
    have hkj : k ≤ j := by omega
    have cR := fun v w h => Lib.hid (RRaw_any v s j w h)
    have e1 := text_spoilt s hok h0
    have e2 := fun h1 h2 => text_zero s h0 h1 h2
    have e3 := fun h1 h2 => text_form s h0 h1 h2
    have hall := take_all (s := s) hok (n := (j : Int)) (by omega)
    simp only [Int.toNat_natCast] at e2 e3
    clear h0
    obtain ⟨t, ht⟩ : ∃ t, t = (takeS s (j : Int)).2 := ⟨_, rfl⟩
    rw [← ht] at hL cR e2 e3 hall
    obtain ⟨er, her⟩ : ∃ er, er = (takeS s (j : Int)).1.e := ⟨_, rfl⟩
    rw [← her] at e1 hall
    by_cases he : er = 0
    · subst he
      have hlen : t.length = j := by have := hall rfl; omega
      have hjb : j ≤ 140737488355000 := by omega
      obtain ⟨i0, hi, hsz⟩ := u8one
      have r2 := fun A c w => run_cut (P := Try.prog) Try.underlying22 hi hsz A j c k hkj w
      have r1 := fun A c w (h : k ≤ c) => run_upTo (P := Try.prog) Try.underlying22 hi A j c k h w
      have htk : (t.take k).length = k := by simp; omega
      have htd : (t.drop k).length = j - k := by simp; omega
      have cZ := fun p c l n hn w hb hl => Lib.hid (Rzeros_at p c l n hn w hb hl)
      have cS := fun v s x w h => Lib.hid (Rspoil_any v s x w h)
      have HE := Lib.hid her
      have HLEN := Lib.hid hlen
      have HTK := Lib.hid htk
      have HTD := Lib.hid htd
      cases hz : zeroB (t.drop k) with
      | true =>
        have HS := Lib.hid (e2 (by omega) hz)
        have HZ := Lib.hid hz
        clear e1 e2 e3 hz ht her htk htd hi hsz hall hlen hok
        go_enter Try.func18, Try.ntmps18
        go_wp2_with (first
          | (go_at_call 16; refine (cR _ _ (HV.out.keep (below_box2 _ _ _ _ _))).out.mono ?_; rintro e w1 ⟨⟨v', A2, c2, he, hrv, hbl, hlc⟩, hb⟩; rw [HLEN.out] at he hlc; subst he; have HRV := Lib.hid hrv; obtain ⟨A1, c1, hv1, hbl1, _⟩ := hrv; rw [← HE.out] at hv1; subst hv1; obtain ⟨c0', c1', f0', f1', d0', d1', g0', g1'⟩ := box_facts hb; have hbl2 := bl_set2 hbl c0' c1' (.slice A1 (takeS s j).1.b.length c1) (.int .i64 0); have HBK := Lib.hid (box_block hb); have hkc : k ≤ c2 := (by omega); have rt := run_text_n (P := Try.prog) Try.underlying22 Try.underlying5 Try.underlying9 (hbl2.take k) HTK.out c2; have HB := Lib.hid hb; have HBL := Lib.hid hbl2; clear hb hbl hbl1 hbl2)
          | (go_at_call 31; refine (cZ _ _ (t.drop k) _ HTD.out _ (HBL.out.cut (by rw [HLEN.out]; exact hlc)) (by omega)).out.mono ?_; (rw [HZ.out]; rintro e w2 ⟨rfl, rfl⟩)))
        have hbk : ((w1.setCell ⟨w.heap.size, 0, none⟩ (.slice A1 (takeS s j).1.b.length c1)).setCell ⟨w.heap.size, 1, none⟩ (.int .i64 0)).heap[w.heap.size + 1]? = some (.cells #[.slice none 0 0, .int .i64 0] 34 (0, 0)) := by
          rw [Below.heap_setCell _ _ _ _ (by simp), Below.heap_setCell _ _ _ _ (by simp)]; exact HBK.out
        have x0 : ((w1.setCell ⟨w.heap.size, 0, none⟩ (.slice A1 (takeS s j).1.b.length c1)).setCell ⟨w.heap.size, 1, none⟩ (.int .i64 0)).cell? ⟨w.heap.size, 0, none⟩ = some (.slice A1 (takeS s j).1.b.length c1) := by simp [go_sem, c0', c1']
        have x1 : ((w1.setCell ⟨w.heap.size, 0, none⟩ (.slice A1 (takeS s j).1.b.length c1)).setCell ⟨w.heap.size, 1, none⟩ (.int .i64 0)).cell? ⟨w.heap.size, 1, none⟩ = some (.int .i64 0) := by simp [go_sem, c0', c1']
        have hlt2 := block_lt_of hbk
        have hrv2 := HRV.out.set2 c0' c1' (.slice A1 (takeS s j).1.b.length c1) (.int .i64 0)
        have hbw := below_set2 (below_trans' (below_box2 _ _ _ _ _) HB.out) (Nat.le_refl _) (.slice A1 (takeS s j).1.b.length c1) (.int .i64 0)
        generalize (w1.setCell ⟨w.heap.size, 0, none⟩ (.slice A1 (takeS s j).1.b.length c1)).setCell ⟨w.heap.size, 1, none⟩ (.int .i64 0) = X at *
        have y0 := fun q => Flow.cell_but (S := [w.heap.size + 1]) x0 (by simp) q
        have y1 := fun q => Flow.cell_but (S := [w.heap.size + 1]) x1 (by simp) q
        have rtq := fun q => run_text_n (P := Try.prog) Try.underlying22 Try.underlying5 Try.underlying9 (bl_but (S := [w.heap.size + 1]) (HBL.out.take k) (fun hl a ha => by simpa using bl_ne (HBL.out.take k) hbk hl a ha) q) HTK.out c2
        have HBK2 := Lib.hid hbk
        have HRV2 := Lib.hid hrv2
        have HBW := Lib.hid hbw
        clear hbk x0 x1 rt c0' c1' f0' f1' d0' d1' g0' g1' hrv2 hbw
        refine Flow.wp_region_flow [w.heap.size + 1] [0, 1, 2, 3, 4, 5, 6] [5] (by kernel_rfl) (by kernel_rfl) (by simpa using hlt2) ?_
        simp only [Flow.pick, List.getElem?_cons_zero, List.getElem?_cons_succ, List.cons_append, List.nil_append]
        clear hlt2
        repeat (refine Flow.walk_step (fun K hK => ?_); go_simp; (refine hK _ ?_; clear hK K))
        refine Flow.walk_event rfl (fun _ W' => ∃ W, Flow.Kept X W ∧ W' = (W.setCell ⟨w.heap.size + 1, 0, none⟩ (.slice A1 (takeS s j).1.b.length c1)).setCell ⟨w.heap.size + 1, 1, none⟩ (.int .i64 0)) (fun W hW => ?_) ?_
        · have HBKW := Lib.hid ((hW.block _ (block_lt_of HBK2.out)).trans HBK2.out)
          obtain ⟨z0, z1, z2, z3⟩ := cells2 HBKW.out
          have HW := Lib.hid hW
          clear hW rtq y0 y1
          go_simp
          exact ⟨⟨W, HW.out, rfl⟩, into_set2 (by simp) _ _⟩
        rintro _ W2 ⟨W, hW, rfl⟩ _
        have HBKW := Lib.hid ((hW.block _ (block_lt_of HBK2.out)).trans HBK2.out)
        obtain ⟨z0, z1, _, _⟩ := cells2 HBKW.out
        have HW := Lib.hid hW
        clear rtq y0 y1 hW
        repeat (refine Flow.walk_step (fun K hK => ?_); go_simp; (refine hK _ ?_; clear hK K))
        refine Flow.walk_nil ?_
        intro W3 hb3
        simp only [List.length_cons, List.length_nil, List.drop_succ_cons, List.drop_zero, List.drop_nil, Nat.zero_add, Nat.reduceAdd]
        have HB3 := Lib.hid hb3
        have u0 := cell_after hb3 (show ((W.setCell ⟨w.heap.size + 1, 0, none⟩ (.slice A1 (takeS s j).1.b.length c1)).setCell ⟨w.heap.size + 1, 1, none⟩ (.int .i64 0)).cell? ⟨w.heap.size + 1, 0, none⟩ = some (.slice A1 (takeS s j).1.b.length c1) by simp [go_sem, z0, z1])
        have u1 := cell_after hb3 (show ((W.setCell ⟨w.heap.size + 1, 0, none⟩ (.slice A1 (takeS s j).1.b.length c1)).setCell ⟨w.heap.size + 1, 1, none⟩ (.int .i64 0)).cell? ⟨w.heap.size + 1, 1, none⟩ = some (.int .i64 0) by simp [go_sem, z0, z1])
        have HZ0 := Lib.hid z0
        have HZ1 := Lib.hid z1
        clear hb3 z0 z1
        go_wp2_with fail
        refine bodyPost_ret (v := .tuple #[.agg #[.slice A1 (takeS s j).1.b.length c1, .int .i64 0], .string (strOf (t.take k))]) (by simp [results, Try.results18, go_sem, u0, u1]) rfl ⟨?_, below_trans' (below_set2 (below_trans' HBW.out HW.out) (by omega) _ _) HB3.out⟩
        rw [HS.out]
        exact ⟨_, rfl, ((HRV2.out.keep HW.out).set2 HZ0.out HZ1.out _ _).keep HB3.out⟩
      | false =>
        have HS := Lib.hid (e3 (by omega) hz)
        have HZ := Lib.hid hz
        have HOK2 := Lib.hid (take_ok hok (j : Int))
        clear e1 e2 e3 hz ht her htk htd hi hsz hall hlen hok
        go_enter Try.func18, Try.ntmps18
        go_wp2_with (first
          | (go_at_call 16; refine (cR _ _ (HV.out.keep (below_box2 _ _ _ _ _))).out.mono ?_; rintro e w1 ⟨⟨v', A2, c2, he, hrv, hbl, hlc⟩, hb⟩; rw [HLEN.out] at he hlc; subst he; have HRV := Lib.hid hrv; obtain ⟨A1, c1, hv1, hbl1, _⟩ := hrv; rw [← HE.out] at hv1; subst hv1; obtain ⟨c0', c1', f0', f1', d0', d1', g0', g1'⟩ := box_facts hb; have hbl2 := bl_set2 hbl c0' c1' (.slice A1 (takeS s j).1.b.length c1) (.int .i64 0); have hkc : k ≤ c2 := (by omega); have HB := Lib.hid hb; have HBL := Lib.hid hbl2; clear hb hbl hbl1 hbl2)
          | (go_at_call 31; refine (cZ _ _ (t.drop k) _ HTD.out _ (HBL.out.cut (by rw [HLEN.out]; exact hlc)) (by omega)).out.mono ?_; (rw [HZ.out]; rintro e w2 ⟨rfl, rfl⟩))
          | (go_at_call 28; refine (cS _ (takeS s j).1 _ _ (HRV.out.set2 c0' c1' _ _)).out.mono ?_; rintro e w3 ⟨rfl, hb⟩; have d0'' := cell_after hb ((set2_cell (by omega) _ _).trans d0'); have d1'' := cell_after hb ((set2_cell (by omega) _ _).trans d1'); have g0'' := free_after hb ((set2_cell (by omega) _ _).trans d0') ((set2_free (by omega) _ _).trans g0'); have g1'' := free_after hb ((set2_cell (by omega) _ _).trans d1') ((set2_free (by omega) _ _).trans g1'); have HB3 := Lib.hid hb; clear hb))
        refine bodyPost_ret (v := .tuple #[.agg #[.slice none 0 0, .int .i64 (spoilS (takeS s j).1 3).e], .string (strOf [])]) (by simp [results, Try.results18, go_sem, d0'', d1'', strOf]) rfl ⟨?_, below_set2 (below_trans' (below_set2 (below_trans' (below_box2 _ _ _ _ _) HB.out) (Nat.le_refl _) _ _) HB3.out) (by omega) _ _⟩
        rw [HS.out]
        exact ⟨_, rfl, rv_spoilt _ HOK2.out 3⟩
    · have HS := Lib.hid (e1 he)
      have hne : (er != 0) = true := by simpa using he
      have hne2 : (er == 0) = false := by simpa using he
      have HE := Lib.hid her
      clear e1 e2 e3 ht her hall hok he
      go_enter Try.func18, Try.ntmps18
      go_wp2_with (go_at_call 16; refine (cR _ _ (HV.out.keep (below_box2 _ _ _ _ _))).out.mono ?_; rintro e w1 ⟨⟨v', A2, c2, rfl, hrv, hbl, hlc⟩, hb⟩; have HRV := Lib.hid hrv; obtain ⟨A1, c1, hv1, hbl1, _⟩ := hrv; rw [← HE.out] at hv1; subst hv1; obtain ⟨c0', c1', f0', f1', d0', d1', g0', g1'⟩ := box_facts hb; have HB := Lib.hid hb; clear hb hbl hbl1)
      refine bodyPost_ret (v := .tuple #[.agg #[.slice A1 (takeS s j).1.b.length c1, .int .i64 er], .string (strOf [])]) (by simp [results, Try.results18, go_sem, c0', c1', d0', d1', strOf]) rfl ⟨?_, below_set2 (below_set2 (below_trans' (below_box2 _ _ _ _ _) HB.out) (Nat.le_refl _) _ _) (by omega) _ _⟩
      rw [HS.out]
      exact ⟨_, rfl, (HRV.out.set2 c0' c1' _ _).set2 ((set2_cell (by omega) _ _).trans d0') ((set2_cell (by omega) _ _).trans d1') _ _⟩

theorem REnd_any (v : Value) (s : St) (w : World) (h : RV w v s) :
    Calls Try.prog 25 #[v] w fun e w' => e = .returned (.int .i64 (endS s)) ∧ Below w.heap.size w w' := by
  obtain ⟨b, er⟩ := s
  obtain ⟨A, c, rfl, hb, hc, hl, hok⟩ := h
  by_cases he : er = 0
  · subst he
    obtain ⟨q, hq⟩ : ∃ q, q = b.length := ⟨_, rfl⟩
    rw [show (St.mk b 0).b.length = q from hq.symm]
    by_cases hp : 0 < q
    · have HR := Lib.hid (show endS ⟨b, 0⟩ = 6 from if_pos ⟨rfl, by simpa [hq] using hp⟩)
      clear hq hb hc hl hok
      go_enter Try.func25, Try.ntmps25
      go_wp2
      go_ret
      exact ⟨ret_int HR.out.symm, (Below.refl _ _).alloc (Nat.le_refl _) _⟩
    · have HR := Lib.hid (show endS ⟨b, 0⟩ = 0 from if_neg (fun h => hp (by rw [hq]; exact h.2)))
      obtain rfl : q = 0 := by omega
      clear hq hb hc hl hok hp
      go_enter Try.func25, Try.ntmps25
      go_wp2
      go_ret
      exact ⟨ret_int HR.out.symm, (Below.refl _ _).alloc (Nat.le_refl _) _⟩
  · have HR := Lib.hid (show endS ⟨b, er⟩ = er from if_neg (fun h => he h.1))
    have hbn : (er == 0) = false := by simpa using he
    clear he hb hc hl hok
    go_enter Try.func25, Try.ntmps25
    go_wp2
    go_ret
    exact ⟨ret_int HR.out.symm, (Below.refl _ _).alloc (Nat.le_refl _) _⟩
end Wd
end Go.Proofs.Ytkambkdpppgjpaa
