/-
  Contracts of layer bits: New; rows made behind a base; bools in a block.
-/
import Derived.Test.YtndbbpdggggenaaDoorBitsRow3
import Derived.WalkSpells
namespace Go.Proofs.YtndbbpdggggenaaDoor
open Go.RowKit
namespace Bt
open Mem

theorem u64info : (Tryd.prog.info? 45).map (fun i => (i.zero, i.size, i.bytes)) = some (some (.int .u64 0), 1, 8) := by kernel_rfl
theorem boolinfo : (Tryd.prog.info? 4).map (fun i => (i.zero, i.size, i.bytes)) = some (some (.bool false), 1, 1) := by kernel_rfl
theorem words_one (ws : List Nat) : ∀ u ∈ ws.map wordV, u.oneCell' = true := by
  intro u hu
  obtain ⟨x, _, rfl⟩ := List.mem_map.1 hu
  rfl

theorem New_out (n : Int) (w : World) (h : ¬ (1 ≤ n ∧ n ≤ 65536)) : Calls Tryd.prog 23 #[.int .i64 n] w fun e w' => e = .returned (.tuple #[.pointer none, .int .i64 2]) ∧ w = w' := by
  by_cases h0 : n < 1
  · clear h
    go_enter Tryd.func23, Tryd.ntmps23
    go_wp2
    exact bodyPost_ret (v := .tuple #[.pointer none, .int .i64 2]) (by simp [results, Tryd.results23, go_sem]) rfl ⟨rfl, rfl⟩
  · have h1 : 65536 < n := by omega
    clear h
    go_enter Tryd.func23, Tryd.ntmps23
    go_wp2
    exact bodyPost_ret (v := .tuple #[.pointer none, .int .i64 2]) (by simp [results, Tryd.results23, go_sem]) rfl ⟨rfl, rfl⟩
set_option maxHeartbeats 1000000 in
theorem New_in (n : Nat) (w : World) (h0 : 1 ≤ n) (h1 : n ≤ 65536) : Calls Tryd.prog 23 #[.int .i64 (n : Int)] w fun e w' => (∃ g b, e = .returned (.tuple #[.pointer (some ⟨g, 0, none⟩), .int .i64 0]) ∧ RowAt w' g b (List.replicate n false) ∧ w.heap.size ≤ g ∧ w.heap.size ≤ b) ∧ Below w.heap.size w w' := by
  have HRP := Lib.hid (rep_free n)
  obtain ⟨m, hm⟩ : ∃ m, m = (n + 63) / 64 := ⟨_, rfl⟩
  rw [← hm] at HRP
  have hmk := fun w => run_make_at (P := Tryd.prog) Tryd.underlying66 u64info rfl (by omega) m (by omega) w
  have hq : ((n : Int) + 64 - 1) / 64 = (m : Int) := by omega
  have hwm : IntKind.i64.wrap (m : Int) = (m : Int) := by rw [IntKind.wrap_i64]; omega
  have HM : Hid (m ≤ 1048576) := by unfold Hid; omega
  clear hm
  go_enter Tryd.func23, Tryd.ntmps23
  go_wp2
  have hw0 : Ow 45 (w.alloc (.cells (Array.replicate m (.int .u64 0)) 45)) w.heap.size m ((List.replicate m 0).map wordV) := by
    have := ow_made 45 w (.int .u64 0) m HM.out
    simpa [wordV] using this
  have hb1 : Below w.heap.size w (w.alloc (.cells (Array.replicate m (.int .u64 0)) 45)) := (Below.refl _ _).alloc (Nat.le_refl _) _
  have hs1 : (w.alloc (.cells (Array.replicate m (.int .u64 0)) 45)).heap.size = w.heap.size + 1 := by simp
  generalize w.alloc (.cells (Array.replicate m (.int .u64 0)) 45) = w1 at *
  refine bodyPost_ret (v := .tuple #[.pointer (some ⟨w.heap.size + 1, 0, none⟩), .int .i64 0]) (by simp [results, Tryd.results23, go_sem]) rfl ⟨⟨w.heap.size + 1, w.heap.size, rfl, ⟨m, List.replicate m 0, ?_, ?_, HRP.out, by simpa using h0, by simpa using h1⟩, by omega, Nat.le_refl _⟩, hb1.alloc hb1.size _⟩
  · rw [← hs1, heap_alloc_new]; simp
  · exact hw0.kept ((Below.refl _ _).alloc (Nat.le_refl _) _)

/-- a row that was made behind W, the library's table beside it; of what was there nothing has turned -/
structure Rw (W w : World) (g b : Nat) (tb : List Bool) : Prop where
  row : RowAt w g b tb
  tab : Tab w
  bel : Below W.heap.size W w
  hg : W.heap.size ≤ g
  hb : W.heap.size ≤ b
theorem Tab.below {W w : World} (h : Tab W) (hb : Below W.heap.size W w) : Tab w := h.keep (hb.block _ h.lt)
theorem below_into {B : Nat} {W w w' : World} {S : List Nat} (h : Below B W w) (hi : Flow.Into S w w') (hS : ∀ k, k ∈ S → B ≤ k) (hB : B ≤ w.heap.size) : Below B W w' :=
  h.trans ⟨hi.os, hi.tape, hi.output, hi.size, fun k hk => hi.block k (Nat.lt_of_lt_of_le hk hB) fun hh => absurd hk (Nat.not_lt.2 (hS k hh))⟩
section
variable {W w w' : World} {g b : Nat} {tb tb' : List Bool}
theorem Rw.kept (h : Rw W w g b tb) (hT : Tab W) (hb : Below w.heap.size w w') : Rw W w' g b tb := by
  have h1 := h.bel.trans (hb.mono h.bel.size)
  exact ⟨h.row.kept hb, hT.below h1, h1, h.hg, h.hb⟩
theorem Rw.into (h : Rw W w g b tb) (hT : Tab W) (hi : Flow.Into [b] w w') (hr : RowAt w' g b tb') : Rw W w' g b tb' := by
  have h1 := below_into h.bel hi (by simpa using h.hb) h.bel.size
  exact ⟨hr, hT.below h1, h1, h.hg, h.hb⟩
theorem Rw.Set (h : Rw W w g b tb) (hT : Tab W) (i : Int) : Calls Tryd.prog 24 #[.pointer (some ⟨g, 0, none⟩), .int .i64 i] w fun e w' => e = .returned (.int .i64 (setE tb i)) ∧ Rw W w' g b (setT tb i) ∧ Flow.Into [b] w w' :=
  (Set_any g b i tb w h.row).mono fun _ _ ⟨he, hr, hi⟩ => ⟨he, h.into hT hi hr, hi⟩
theorem Rw.Clear (h : Rw W w g b tb) (hT : Tab W) (i : Int) : Calls Tryd.prog 30 #[.pointer (some ⟨g, 0, none⟩), .int .i64 i] w fun e w' => e = .returned (.int .i64 (clrE tb i)) ∧ Rw W w' g b (clrT tb i) ∧ Flow.Into [b] w w' :=
  (Clear_any g b i tb w h.row).mono fun _ _ ⟨he, hr, hi⟩ => ⟨he, h.into hT hi hr, hi⟩
theorem Rw.Has (h : Rw W w g b tb) (hT : Tab W) (i : Int) : Calls Tryd.prog 32 #[.pointer (some ⟨g, 0, none⟩), .int .i64 i] w fun e w' => e = .returned (.bool (hasB tb i)) ∧ Rw W w' g b tb ∧ Below w.heap.size w w' :=
  (Has_any g b i tb w h.row).mono fun _ _ ⟨he, hb⟩ => ⟨he, h.kept hT hb, hb⟩
theorem Rw.Free (h : Rw W w g b tb) (f : Int) (hf : f ≤ 9223372036854775807) : Calls Tryd.prog 29 #[.pointer (some ⟨g, 0, none⟩), .int .i64 f] w fun e w' => e = .returned (.tuple #[.int .i64 (foI (firstO tb f false)), .bool (foB (firstO tb f false))]) ∧ w = w' :=
  Free_any g b f tb w h.row h.tab hf
theorem Rw.Next (h : Rw W w g b tb) (f : Int) (hf : f ≤ 9223372036854775807) : Calls Tryd.prog 31 #[.pointer (some ⟨g, 0, none⟩), .int .i64 f] w fun e w' => e = .returned (.tuple #[.int .i64 (foI (firstO tb f true)), .bool (foB (firstO tb f true))]) ∧ w = w' :=
  Next_any g b f tb w h.row h.tab hf
end
/-- New, behind whatever base -/
theorem New_rw (W w : World) (hT : Tab W) (hb : Below W.heap.size W w) (n : Nat) (h0 : 1 ≤ n) (h1 : n ≤ 65536) : Calls Tryd.prog 23 #[.int .i64 (n : Int)] w fun e w' => ∃ g b, e = .returned (.tuple #[.pointer (some ⟨g, 0, none⟩), .int .i64 0]) ∧ Rw W w' g b (List.replicate n false) ∧ Below w.heap.size w w' :=
  (New_in n w h0 h1).mono fun _ _ ⟨⟨g, b, he, hr, hg, hbb⟩, hbl⟩ => by
    have h2 := hb.trans (hbl.mono hb.size)
    exact ⟨g, b, he, ⟨hr, hT.below h2, h2, Nat.le_trans hb.size hg, Nat.le_trans hb.size hbb⟩, hbl⟩

/-- the document's row: bools from the front of block h on -/
structure BoolAt (w : World) (h c n : Nat) (tb : List Bool) : Prop where
  ow : Ow 4 w h c (tb.map Value.bool)
  len : tb.length = n
section
variable {w w' : World} {h c n : Nat} {tb : List Bool}
theorem BoolAt.cell (H : BoolAt w h c n tb) {k : Nat} (hk : k < n) : w.cell? ⟨h, k, none⟩ = some (.bool (tb.getD k false)) := by
  have hk' : k < tb.length := by rw [H.len]; exact hk
  rw [H.ow.cell (by simpa using hk')]; simp [List.getD, hk']
theorem BoolAt.kept (H : BoolAt w h c n tb) (hb : Below w.heap.size w w') : BoolAt w' h c n tb := ⟨H.ow.kept hb, H.len⟩
theorem BoolAt.into {S : List Nat} (H : BoolAt w h c n tb) (hb : Flow.Into S w w') (hn : h ∉ S) : BoolAt w' h c n tb := ⟨H.ow.into hb hn, H.len⟩
end
theorem bools_one (tb : List Bool) : ∀ u ∈ tb.map Value.bool, u.oneCell' = true := by
  intro u hu
  obtain ⟨x, _, rfl⟩ := List.mem_map.1 hu
  rfl
end Bt
end Go.Proofs.YtndbbpdggggenaaDoor
