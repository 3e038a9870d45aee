/-
  Contracts of layer bits: New, Fork; slices.Clone; the law's awake.
-/
import Derived.Test.YtbdjminofehloaaDoorBitsRow3
import Derived.WalkSpells
namespace Go.Proofs.YtbdjminofehloaaDoor
open Go.RowKit
namespace Bt
open Mem

theorem u64info : (Tryd.prog.info? 51).map (fun i => (i.zero, i.size, i.bytes)) = some (some (.int .u64 0), 1, 8) := by kernel_rfl
theorem boolinfo : (Tryd.prog.info? 4).map (fun i => (i.zero, i.size, i.bytes)) = some (some (.bool false), 1, 1) := by kernel_rfl
theorem words_one (ws : List Nat) : ∀ u ∈ ws.map wordV, u.oneCell' = true := by
  intro u hu
  obtain ⟨x, _, rfl⟩ := List.mem_map.1 hu
  rfl

set_option maxHeartbeats 1000000 in
theorem Clone_any (b m c : Nat) (vs : List Value) (w : World) (h : Ow 51 w b c vs) (hl : vs.length = m) (h1 : ∀ u ∈ vs, u.oneCell' = true) (h0 : 0 < m) (hm : m ≤ 1048576) :
    Calls Tryd.prog 25 #[.slice (some ⟨b, 0, none⟩) m c] w fun e w' => (∃ b' c', e = .returned (.slice (some ⟨b', 0, none⟩) m c') ∧ Ow 51 w' b' c' vs ∧ w.heap.size ≤ b') ∧ Below w.heap.size w w' := by
  have HO := Lib.hid h
  have HL := Lib.hid hl
  have H1 := Lib.hid h1
  have hnil : ∀ W, (binOp .eql 48 (.slice (some ⟨b, 0, none⟩) m c) (.slice none 0 0)).run Tryd.prog W = .ok (.bool false) W := fun W => Lib.run_eql_slice_nil W _ _ _ _ _ _ _ Tryd.underlying48
  clear h hl h1
  go_enter Tryd.func25, Tryd.ntmps25
  go_wp2_with (with_reducible refine wpList_append_ow rfl (.tmp 5) (.tmp 6) _ rfl 51 Tryd.underlying48 (.int .u64 0) 8 u64info rfl (by omega) w rfl rfl b m c vs rfl HL.out HO.out H1.out h0 hm ?_; intro b' c' w1 hO hB hb)
  go_ret
  exact ⟨⟨b', c', rfl, hO.out, hB.out⟩, hb.out⟩

def EvClone (w0 : World) (m : Nat) (vs : List Value) (v : Value) (w : World) : Prop := ∃ b' c', v = .slice (some ⟨b', 0, none⟩) m c' ∧ Ow 51 w b' c' vs ∧ w0.heap.size ≤ b'
set_option maxHeartbeats 1000000 in
theorem Fork_any (g b : Nat) (tb : List Bool) (w : World) (h : RowAt w g b tb) : Calls Tryd.prog 14 #[.pointer (some ⟨g, 0, none⟩)] w fun e w' => (∃ g' b', e = .returned (.pointer (some ⟨g', 0, none⟩)) ∧ RowAt w' g' b' tb ∧ w.heap.size ≤ g' ∧ w.heap.size ≤ b') ∧ Below w.heap.size w w' := by
  have HR := Lib.hid h
  have cL := fun w h => Lib.hid (Len_any g b tb w h)
  obtain ⟨c, ws, hw⟩ := h
  have HW := Lib.hid hw
  obtain ⟨d0, d1⟩ := hw.cells
  have hlo := hw.lo
  have hhi := hw.hi
  have hlen := hw.rep.len
  obtain ⟨n, hn⟩ : ∃ n, n = tb.length := ⟨_, rfl⟩
  have HN := Lib.hid hn
  rw [← hn] at d0 cL hlo hhi hlen
  obtain ⟨m, hm⟩ : ∃ m, m = ws.length := ⟨_, rfl⟩
  have HM := Lib.hid hm
  rw [← hm] at d1 hlen
  have cC := fun w h => Lib.hid (Clone_any b m c (ws.map wordV) w h (by simpa using HM.out.symm) (words_one ws) (by omega) (by omega))
  have hn0 : ((n : Int) == 0) = false := by simp; omega
  have e0 := fun q : Drift.Tide [] w [] => Drift.Tide.cell d0 (by simp) q
  have e1 := fun q : Drift.Tide [] w [] => Drift.Tide.cell d1 (by simp) q
  clear hw hn hm d0 d1 hlen
  go_enter Tryd.func14, Tryd.ntmps14
  go_wp2_with (go_at_call 7; refine (cL _ HR.out).out.mono ?_; rintro e w' ⟨rfl, rfl⟩)
  refine Drift.wp_region_drift [] [(0,[]),(1,[]),(2,[]),(3,[]),(4,[]),(5,[]),(6,[]),(7,[]),(8,[]),(9,[]),(10,[]),(11,[])] [8] [10] (by kernel_rfl) (by kernel_rfl) (by simp) ?_
  simp only [Drift.pick, Drift.opsAt, List.getElem?_toArray, List.getElem?_cons_zero, List.getElem?_cons_succ, List.cons_append, List.nil_append, List.filterMap_cons, List.filterMap_nil]
  repeat (refine Drift.walk_step (fun K hK => ?_); go_simp; (refine hK _ ?_; clear hK K))
  refine Drift.walk_event rfl Drift.mkwalk_nil (EvClone w m (ws.map wordV)) (fun W hk _ => ?_) (fun v w1 hv hI _ hTd => ?_)
  · go_simp
    go_at_call 25
    exact (cC W (HW.out.ow.kept hk)).out.mono fun e w' ⟨⟨b', c', he, ho, hb⟩, hbl⟩ => ⟨_, he, ⟨b', c', rfl, ho, Nat.le_trans hk.size hb⟩, Flow.Into.of_below hbl⟩
  · obtain ⟨b', c', rfl, ho, hb⟩ := hv
    have HO1 := Lib.hid ho
    have HB1 := Lib.hid hb
    have HI1 := Lib.hid hI
    clear hI ho hb e0 e1
    repeat (refine Drift.walk_step (fun K hK => ?_); go_simp; (refine hK _ ?_; clear hK K))
    refine Drift.walk_make rfl Drift.mkwalk_nil (fun b => .pointer (some ⟨b, 0, none⟩)) (.cells #[.int .i64 (n : Int), .slice (some ⟨b', 0, none⟩) m c'] 50) (fun W => by go_simp) (fun g' hg' hT1 => ?_)
    repeat (refine Drift.walk_step (fun K hK => ?_); go_simp; (refine hK _ ?_; clear hK K))
    refine Drift.walk_nil ?_
    intro w2 hb2 hl2
    have HBL : Hid (Below w.heap.size w w2) := Below.trans HI1.out.below (Below.mono hb2 HI1.out.size)
    have HRA : Hid (RowAt w2 g' b' tb) := ⟨c', ws, ⟨by rw [← HN.out, ← HM.out]; exact hl2 (g', .cells #[.int .i64 (n : Int), .slice (some ⟨b', 0, none⟩) m c'] 50) (by simp), HO1.out.kept hb2, HW.out.rep, HW.out.lo, HW.out.hi⟩⟩
    clear hb2 hl2 hT1
    simp only [List.length_cons, List.length_nil, List.drop_succ_cons, List.drop_nil, Nat.zero_add, Nat.reduceAdd]
    go_wp2_with fail
    go_ret
    exact ⟨⟨g', b', rfl, HRA.out, hg', HB1.out⟩, HBL.out⟩

theorem New_out (n : Int) (w : World) (h : ¬ (1 ≤ n ∧ n ≤ 65536)) : Calls Tryd.prog 5 #[.int .i64 n] w fun e w' => e = .returned (.tuple #[.pointer none, .int .i64 2]) ∧ w = w' := by
  by_cases h0 : n < 1
  · clear h
    go_enter Tryd.func5, Tryd.ntmps5
    go_wp2
    exact bodyPost_ret (v := .tuple #[.pointer none, .int .i64 2]) (by simp [results, Tryd.results5, go_sem]) rfl ⟨rfl, rfl⟩
  · have h1 : 65536 < n := by omega
    clear h
    go_enter Tryd.func5, Tryd.ntmps5
    go_wp2
    exact bodyPost_ret (v := .tuple #[.pointer none, .int .i64 2]) (by simp [results, Tryd.results5, go_sem]) rfl ⟨rfl, rfl⟩
set_option maxHeartbeats 1000000 in
theorem New_in (n : Nat) (w : World) (h0 : 1 ≤ n) (h1 : n ≤ 65536) : Calls Tryd.prog 5 #[.int .i64 (n : Int)] w fun e w' => (∃ g b, e = .returned (.tuple #[.pointer (some ⟨g, 0, none⟩), .int .i64 0]) ∧ RowAt w' g b (List.replicate n false) ∧ w.heap.size ≤ g ∧ w.heap.size ≤ b) ∧ Below w.heap.size w w' := by
  have HRP := Lib.hid (rep_free n)
  obtain ⟨m, hm⟩ : ∃ m, m = (n + 63) / 64 := ⟨_, rfl⟩
  rw [← hm] at HRP
  have hmk := fun w => run_make_at (P := Tryd.prog) Tryd.underlying48 u64info rfl (by omega) m (by omega) w
  have hq : ((n : Int) + 64 - 1) / 64 = (m : Int) := by omega
  have hwm : IntKind.i64.wrap (m : Int) = (m : Int) := by rw [IntKind.wrap_i64]; omega
  have HM : Hid (m ≤ 1048576) := by unfold Hid; omega
  clear hm
  go_enter Tryd.func5, Tryd.ntmps5
  go_wp2
  have hw0 : Ow 51 (w.alloc (.cells (Array.replicate m (.int .u64 0)) 51)) w.heap.size m ((List.replicate m 0).map wordV) := by
    have := ow_made 51 w (.int .u64 0) m HM.out
    simpa [wordV] using this
  have hb1 : Below w.heap.size w (w.alloc (.cells (Array.replicate m (.int .u64 0)) 51)) := (Below.refl _ _).alloc (Nat.le_refl _) _
  have hs1 : (w.alloc (.cells (Array.replicate m (.int .u64 0)) 51)).heap.size = w.heap.size + 1 := by simp
  generalize w.alloc (.cells (Array.replicate m (.int .u64 0)) 51) = w1 at *
  refine bodyPost_ret (v := .tuple #[.pointer (some ⟨w.heap.size + 1, 0, none⟩), .int .i64 0]) (by simp [results, Tryd.results5, go_sem]) rfl ⟨⟨w.heap.size + 1, w.heap.size, rfl, ⟨m, List.replicate m 0, ?_, ?_, HRP.out, by simpa using h0, by simpa using h1⟩, by omega, Nat.le_refl _⟩, hb1.alloc hb1.size _⟩
  · rw [← hs1, heap_alloc_new]; simp
  · exact hw0.kept ((Below.refl _ _).alloc (Nat.le_refl _) _)
end Bt
end Go.Proofs.YtbdjminofehloaaDoor
