/-
  Contracts of layer bits: Len, place, Has, Set, Clear.
-/
import Derived.Test.YtndbbpdggggenaaDoorBitsWord
import Derived.Test.YtndbbpdggggenaaDoorOwn
import Derived.Test.YtndbbpdggggenaaDoorDrift
namespace Go.Proofs.YtndbbpdggggenaaDoor
open Go.RowKit
namespace Bt
open Mem

theorem ret_bool {a b : Bool} (h : a = b) : Ending.returned (.bool a) = .returned (.bool b) := by rw [h]
theorem ret_i64 {a b : Int} (h : a = b) : Ending.returned (.int .i64 a) = .returned (.int .i64 b) := by rw [h]
def wordV (x : Nat) : Value := .int .u64 (x : Int)
/-- a row: its struct in block g, its words in block b -/
structure RowW (w : World) (g b c : Nat) (ws : List Nat) (tb : List Bool) : Prop where
  hd : w.heap[g]? = some (.cells #[.int .i64 (tb.length : Int), .slice (some ⟨b, 0, none⟩) ws.length c] 68 (0, 0))
  ow : Ow 45 w b c (ws.map wordV)
  rep : Rep ws tb
  lo : 1 ≤ tb.length
  hi : tb.length ≤ 65536
def RowAt (w : World) (g b : Nat) (tb : List Bool) : Prop := ∃ c ws, RowW w g b c ws tb
section
variable {w w' : World} {g b c : Nat} {ws : List Nat} {tb : List Bool}
theorem RowW.g_lt (h : RowW w g b c ws tb) : g < w.heap.size := (Array.getElem?_eq_some_iff.1 h.hd).1
theorem RowW.ne (h : RowW w g b c ws tb) : g ≠ b := by
  rintro rfl
  obtain ⟨_, h2⟩ := h.ow
  rcases h2 with ⟨h', _⟩ | ⟨g', cap', cur, he, _, hh, _⟩
  · cases h'
  · obtain ⟨rfl, rfl⟩ : g = g' ∧ c = cap' := by simpa using he
    rw [h.hd] at hh
    simp at hh
theorem RowW.cells (h : RowW w g b c ws tb) : w.cell? ⟨g, 0, none⟩ = some (.int .i64 (tb.length : Int)) ∧ w.cell? ⟨g, 1, none⟩ = some (.slice (some ⟨b, 0, none⟩) ws.length c) := by
  have := h.hd
  simp [World.cell?, this]
theorem RowW.word (h : RowW w g b c ws tb) {j : Nat} (hj : j < ws.length) : w.cell? ⟨b, j, none⟩ = some (.int .u64 (ws[j] : Int)) := by
  rw [h.ow.cell (by simpa using hj)]; simp [wordV]
theorem RowW.free (h : RowW w g b c ws tb) (j : Nat) : w.frozen? ⟨b, j, none⟩ = false := h.ow.free j
theorem RowW.keep (h : RowW w g b c ws tb) (hg : w'.heap[g]? = w.heap[g]?) (hb : w'.heap[b]? = w.heap[b]?) : RowW w' g b c ws tb := ⟨hg.trans h.hd, h.ow.keep hb, h.rep, h.lo, h.hi⟩
theorem RowW.kept (h : RowW w g b c ws tb) (hb : Below w.heap.size w w') : RowW w' g b c ws tb := h.keep (hb.block g h.g_lt) (hb.block b h.ow.lt)
theorem RowAt.kept (h : RowAt w g b tb) (hb : Below w.heap.size w w') : RowAt w' g b tb := by
  obtain ⟨c, ws, h⟩ := h; exact ⟨c, ws, h.kept hb⟩
theorem RowAt.into {S : List Nat} (h : RowAt w g b tb) (hb : Flow.Into S w w') (hg : g ∉ S) (hbb : b ∉ S) : RowAt w' g b tb := by
  obtain ⟨c, ws, h⟩ := h; exact ⟨c, ws, h.keep (hb.block g h.g_lt hg) (hb.block b h.ow.lt hbb)⟩
theorem RowAt.lt (h : RowAt w g b tb) : g < w.heap.size ∧ b < w.heap.size ∧ g ≠ b ∧ 1 ≤ tb.length ∧ tb.length ≤ 65536 := by
  obtain ⟨c, ws, h⟩ := h; exact ⟨h.g_lt, h.ow.lt, h.ne, h.lo, h.hi⟩
theorem RowAt.cell (h : RowAt w g b tb) : w.cell? ⟨g, 0, none⟩ = some (.int .i64 (tb.length : Int)) := by
  obtain ⟨c, ws, h⟩ := h; exact h.cells.1
/-- a word written anew -/
theorem RowW.store (h : RowW w g b c ws tb) {j x : Nat} {tb' : List Bool} (hr : Rep (ws.set j x) tb') (hl : tb'.length = tb.length) : RowAt (w.setCell ⟨b, j, none⟩ (.int .u64 (x : Int))) g b tb' ∧ Flow.Into [b] w (w.setCell ⟨b, j, none⟩ (.int .u64 (x : Int))) := by
  obtain ⟨h1, h2⟩ := h.ow.set j (.int .u64 (x : Int))
  refine ⟨⟨c, ws.set j x, ?_, ?_, hr, by rw [hl]; exact h.lo, by rw [hl]; exact h.hi⟩, h2⟩
  · rw [h2.block g h.g_lt (by simpa using h.ne), h.hd, hl, List.length_set]
  · rw [List.map_set]; exact h1
end

theorem Len_any (g b : Nat) (tb : List Bool) (w : World) (h : RowAt w g b tb) : Calls Tryd.prog 26 #[.pointer (some ⟨g, 0, none⟩)] w fun e w' => e = .returned (.int .i64 (tb.length : Int)) ∧ w = w' := by
  have c0 := h.cell
  clear h
  go_enter Tryd.func26, Tryd.ntmps26
  go_wp2
  go_ret
  exact ⟨rfl, rfl⟩

theorem place_in (g b : Nat) (tb : List Bool) (i : Int) (w : World) (h : RowAt w g b tb) (h0 : 0 ≤ i) (h1 : i < tb.length) : Calls Tryd.prog 33 #[.pointer (some ⟨g, 0, none⟩), .int .i64 i] w fun e w' => e = .returned (.int .i64 0) ∧ w = w' := by
  have c0 := h.cell
  have cL := fun w h => Lib.hid (Len_any g b tb w h)
  have HR := Lib.hid h
  obtain ⟨n, hn⟩ : ∃ n, n = tb.length := ⟨_, rfl⟩
  have hn0 : ((n : Int) == 0) = false := by simp; have := h.lt; omega
  rw [← hn] at c0 cL h1
  clear h hn
  go_enter Tryd.func33, Tryd.ntmps33
  go_wp2_with (go_at_call 26; refine (cL _ HR.out).out.mono ?_; rintro e w' ⟨rfl, rfl⟩)
  go_ret
  exact ⟨rfl, rfl⟩
theorem place_out (g b : Nat) (tb : List Bool) (i : Int) (w : World) (h : RowAt w g b tb) (h0 : ¬ (0 ≤ i ∧ i < tb.length)) : Calls Tryd.prog 33 #[.pointer (some ⟨g, 0, none⟩), .int .i64 i] w fun e w' => e = .returned (.int .i64 4) ∧ w = w' := by
  have c0 := h.cell
  have cL := fun w h => Lib.hid (Len_any g b tb w h)
  have HR := Lib.hid h
  obtain ⟨n, hn⟩ : ∃ n, n = tb.length := ⟨_, rfl⟩
  have hn0 : ((n : Int) == 0) = false := by simp; have := h.lt; omega
  rw [← hn] at c0 cL h0
  clear h hn
  by_cases hi : i < 0
  · clear h0
    go_enter Tryd.func33, Tryd.ntmps33
    go_wp2_with (go_at_call 26; refine (cL _ HR.out).out.mono ?_; rintro e w' ⟨rfl, rfl⟩)
    go_ret
    exact ⟨rfl, rfl⟩
  · have h1 : (n : Int) ≤ i := by omega
    have h2 : 0 ≤ i := by omega
    clear h0 hi
    go_enter Tryd.func33, Tryd.ntmps33
    go_wp2_with (go_at_call 26; refine (cL _ HR.out).out.mono ?_; rintro e w' ⟨rfl, rfl⟩)
    go_ret
    exact ⟨rfl, rfl⟩

/-- the word that holds a place, and what Go makes of it -/
theorem RowW.look {w : World} {g b c : Nat} {ws : List Nat} {tb : List Bool} (h : RowW w g b c ws tb) {i : Nat} (h1 : i < tb.length) : ∃ j x p : Nat, j < ws.length ∧ (i : Int) / 64 = (j : Int) ∧ IntKind.i64.wrap (j : Int) = (j : Int) ∧ w.cell? ⟨b, j, none⟩ = some (.int .u64 (x : Int)) ∧ p = 2 ^ (i % 64) ∧
    bits .and .u64 (x : Int) (p : Int) = ((x &&& p : Nat) : Int) ∧ (((x &&& p : Nat) : Int) != 0) = tb.getD i false ∧ bits .or .u64 (x : Int) (p : Int) = ((x ||| p : Nat) : Int) ∧ bits .andNot .u64 (x : Int) (p : Int) = ((x &&& (18446744073709551615 - p) : Nat) : Int) ∧
    Rep (ws.set j (x ||| p)) (tb.set i true) ∧ Rep (ws.set j (x &&& (18446744073709551615 - p))) (tb.set i false) := by
  have hj := h.rep.word h1
  have hx := h.rep.get_lt hj
  have hi := h.hi
  have hp : 2 ^ (i % 64) < 18446744073709551616 := by have : 2 ^ (i % 64) < 2 ^ 64 := Nat.pow_lt_pow_right (by omega) (by omega); omega
  have e : ws.getD (i / 64) 0 = ws[i / 64] := by simp [List.getD, hj]
  refine ⟨i / 64, ws[i / 64], 2 ^ (i % 64), hj, by omega, by rw [IntKind.wrap_i64]; omega, h.word hj, rfl, u64_and_nat _ _ hx hp, ?_, u64_or_nat _ _ hx hp, u64_andNot_nat _ _ hx hp, ?_, ?_⟩
  · rw [← h.rep.bit i, bt_get hj, ← and_pow_zero, Bool.eq_iff_iff]; simp
  · rw [← e]; exact h.rep.set h1
  · rw [← e]; exact h.rep.clear h1

set_option maxHeartbeats 1000000 in
theorem Has_in (g b i : Nat) (tb : List Bool) (w : World) (h : RowAt w g b tb) (h1 : i < tb.length) : Calls Tryd.prog 32 #[.pointer (some ⟨g, 0, none⟩), .int .i64 (i : Int)] w fun e w' => e = .returned (.bool (tb.getD i false)) ∧ Below w.heap.size w w' := by
  have HR := Lib.hid h
  obtain ⟨c, ws, hw⟩ := h
  have hi := hw.hi
  have cP := fun w h => Lib.hid (place_in g b tb i w h (by omega) (by omega))
  have cB := fun w => Lib.hid (bit_any i w (by omega))
  obtain ⟨j, x, p, hj, hq, hwj, d2, hp, k1, k2, -⟩ := hw.look h1
  rw [← hp] at cB
  obtain ⟨d0, d1⟩ := hw.cells
  obtain ⟨m, hm⟩ : ∃ m, m = ws.length := ⟨_, rfl⟩
  rw [← hm] at d1 hj
  generalize tb.getD i false = v at k2 ⊢
  clear hw hm hp
  have e1 := fun q : Drift.Tide [] w [] => Drift.Tide.cell d1 (by simp) q
  have e2 := fun q : Drift.Tide [] w [] => Drift.Tide.cell d2 (by simp) q
  clear d0 d1 d2
  go_enter Tryd.func32, Tryd.ntmps32
  go_wp2_with fail
  refine Drift.wp_region_drift [] [(0,[]),(1,[]),(2,[]),(3,[]),(4,[]),(5,[]),(6,[]),(7,[]),(8,[]),(9,[]),(10,[]),(11,[]),(12,[]),(13,[]),(14,[]),(15,[]),(16,[]),(17,[]),(18,[])] [] [] (by kernel_rfl) (by kernel_rfl) (by simp) ?_
  simp only [Drift.pick, Drift.opsAt, List.getElem?_toArray, List.getElem?_cons_zero, List.getElem?_cons_succ, List.cons_append, List.nil_append, List.filterMap_nil]
  repeat (refine Drift.walk_step (fun K hK => ?_); go_simp; first | (refine hK _ ?_; clear hK K) | (apply Exists.intro; refine ⟨fun q => ?_, hK _ ?_⟩; (first | (go_at_call 33; exact (cP _ (HR.out.into q.into (by simp) (by simp))).out.mono fun e w' ⟨he, hw⟩ => ⟨he, by subst hw; exact Below.refl _ _⟩) | (go_at_call 34; exact (cB _).out.mono fun e w' ⟨he, hw⟩ => ⟨he, by subst hw; exact Below.refl _ _⟩)); clear hK K))
  refine Drift.walk_nil ?_
  intro w2 hb2 _
  have HB2 := Lib.hid hb2
  clear hb2
  simp only [List.length_cons, List.length_nil, List.drop_succ_cons, List.drop_nil, Nat.zero_add, Nat.reduceAdd]
  go_wp2_with fail
  go_ret
  exact ⟨rfl, HB2.out⟩
end Bt
end Go.Proofs.YtndbbpdggggenaaDoor
