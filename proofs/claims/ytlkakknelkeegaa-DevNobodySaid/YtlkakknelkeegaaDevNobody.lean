/-
  A device that nobody made; DevNobody, walked.
-/
import Derived.Test.YtlkakknelkeegaaDevAwake
namespace Go.Proofs.Ytlkakknelkeegaa
open Go.RowKit
namespace Dv
open Mem

/-- the empty struct in a block -/
def Emp (w : World) (g : Nat) : Prop := w.heap[g]? = some (.cells #[.int .i64 0, .slice none 0 0, .int .u64 0, .int .u64 0] 58 (0, 0))
/-- nil, or the empty struct -/
def Nob (w : World) (p : Option Addr) : Prop := p = none ∨ ∃ g, p = some ⟨g, 0, none⟩ ∧ Emp w g
section
variable {w w' : World} {p : Option Addr}
theorem Nob.kept (h : Nob w p) (hb : Below w.heap.size w w') : Nob w' p := by
  rcases h with h | ⟨g, h1, h2⟩
  · exact .inl h
  · exact .inr ⟨g, h1, (hb.block g (Array.getElem?_eq_some_iff.1 h2).1).trans h2⟩
theorem NBlocks (h : Nob w p) : Calls Try.prog 20 #[.pointer p] w fun e w' => e = .returned (.int .i64 0) ∧ w = w' := by
  rcases h with rfl | ⟨g, rfl, h⟩
  · go_enter Try.func20, Try.ntmps20
    go_wp2
    go_ret
    exact ⟨rfl, rfl⟩
  · have h1 : w.cell? ⟨g, 1, none⟩ = some (.slice none 0 0) := by unfold Emp at h; simp [World.cell?, h]
    clear h
    go_enter Try.func20, Try.ntmps20
    go_wp2
    go_ret
    exact ⟨rfl, rfl⟩
theorem NBytes (h : Nob w p) : Calls Try.prog 21 #[.pointer p] w fun e w' => e = .returned (.int .i64 0) ∧ w = w' := by
  rcases h with rfl | ⟨g, rfl, h⟩
  · go_enter Try.func21, Try.ntmps21
    go_wp2
    go_ret
    exact ⟨rfl, rfl⟩
  · have h1 : w.cell? ⟨g, 0, none⟩ = some (.int .i64 0) := by unfold Emp at h; simp [World.cell?, h]
    clear h
    go_enter Try.func21, Try.ntmps21
    go_wp2
    go_ret
    exact ⟨rfl, rfl⟩
theorem NStats (h : Nob w p) : Calls Try.prog 18 #[.pointer p] w fun e w' => e = .returned (.agg #[.int .u64 0, .int .u64 0]) ∧ Below w.heap.size w w' := by
  rcases h with rfl | ⟨g, rfl, h⟩
  · go_enter Try.func18, Try.ntmps18
    go_wp2
    refine bodyPost_ret (v := .agg #[.int .u64 0, .int .u64 0]) (by simp [results, Try.results18, go_sem]) rfl ⟨rfl, ?_⟩
    exact (Below.refl _ _).alloc (Nat.le_refl _) _
  · have h1 : w.cell? ⟨g, 2, none⟩ = some (.int .u64 0) := by unfold Emp at h; simp [World.cell?, h]
    have h2 : w.cell? ⟨g, 3, none⟩ = some (.int .u64 0) := by unfold Emp at h; simp [World.cell?, h]
    have hg : g < w.heap.size := Flow.lt_of_cell h1
    clear h
    go_enter Try.func18, Try.ntmps18
    go_wp2
    refine bodyPost_ret (v := .agg #[.int .u64 0, .int .u64 0]) (by simp [results, Try.results18, go_sem]) rfl ⟨rfl, ?_⟩
    exact (Below.refl _ _).alloc (Nat.le_refl _) _
theorem Nplace (h : Nob w p) (v : Value) : Calls Try.prog 25 #[.pointer p, v] w fun e w' => e = .returned (.int .i64 1) ∧ w = w' := by
  have cB := Lib.hid (NBlocks h)
  clear h
  go_enter Try.func25, Try.ntmps25
  go_wp2_with (go_at_call 20; refine cB.out.mono ?_; rintro e w' ⟨rfl, rfl⟩)
  go_ret
  exact ⟨rfl, rfl⟩
theorem NRead (h : Nob w p) (v : Value) : Calls Try.prog 15 #[.pointer p, v] w fun e w' => e = .returned (.tuple #[.slice none 0 0, .int .i64 1]) ∧ w = w' := by
  have cP := Lib.hid (Nplace h v)
  clear h
  go_enter Try.func15, Try.ntmps15
  go_wp2_with (go_at_call 25; refine cP.out.mono ?_; rintro e w' ⟨rfl, rfl⟩)
  exact bodyPost_ret (v := .tuple #[.slice none 0 0, .int .i64 1]) (by simp [results, Try.results15, go_sem]) rfl ⟨rfl, rfl⟩
theorem NWrite (h : Nob w p) (v u : Value) : Calls Try.prog 13 #[.pointer p, v, u] w fun e w' => e = .returned (.int .i64 1) ∧ w = w' := by
  have cP := Lib.hid (Nplace h v)
  clear h
  go_enter Try.func13, Try.ntmps13
  go_wp2_with (go_at_call 25; refine cP.out.mono ?_; rintro e w' ⟨rfl, rfl⟩)
  go_ret
  exact ⟨rfl, rfl⟩
theorem NImage (h : Nob w p) : Calls Try.prog 17 #[.pointer p] w fun e w' => (∃ A c, e = .returned (.slice A 0 c)) ∧ Below w.heap.size w w' := by
  have HC := Lib.hid h
  have cB := fun w (h : Nob w p) => Lib.hid (NBlocks h)
  have cY := fun w (h : Nob w p) => Lib.hid (NBytes h)
  have hmk : ∀ w, (Instr.makeSlice 34 (.int .i64 0) (.int .i64 0)).run Try.prog w = .ok (.slice (some ⟨w.heap.size, 0, none⟩) 0 0) (w.alloc (.cells #[] 5)) := fun w => run_make_at (P := Try.prog) Try.underlying34 u8info rfl (by omega) 0 (by omega) w
  have hb : Below w.heap.size w (w.alloc (.cells #[] 5)) := (Below.refl _ _).alloc (Nat.le_refl _) _
  have HB := Lib.hid hb
  have HC2 := Lib.hid (h.kept hb)
  clear h hb
  go_enter Try.func17, Try.ntmps17
  go_upto_region 2 with (first | (go_at_call 20; refine (cB _ HC.out).out.mono ?_; rintro e w' ⟨rfl, rfl⟩) | (go_at_call 21; refine (cY _ HC.out).out.mono ?_; rintro e w' ⟨rfl, rfl⟩))
  obtain ⟨q, hq⟩ : ∃ q, q = w.heap.size := ⟨_, rfl⟩
  simp only [← hq]
  clear hq hmk
  generalize w.alloc (.cells #[] 5) = w2 at *
  go_upto_region 3 with (go_at_call 20; refine (cB _ HC2.out).out.mono ?_; rintro e w' ⟨rfl, rfl⟩)
  go_loop [13] (fun i => i = .int .i64 0) (fun _ => 0)
  case atStart => rfl
  case round =>
    obtain rfl := hrel
    go_wp2
    go_ret
    exact ⟨⟨_, _, rfl⟩, HB.out⟩
end
set_option maxHeartbeats 4000000 in
set_option maxRecDepth 100000 in
theorem DevNobody_walk (i : Nat) (A : Option Addr) (c : Nat) (b : List UInt8) (w : World) (_ : i < 4294967296) (_ : BL w A b) (_ : b.length ≤ c) (_ : b.length ≤ maxLen) : Calls Try.prog 6 #[.int .u32 (i : Int), .slice A b.length c] w fun e w' => e = .returned (.bool true) ∧ Below w.heap.size w w' := by
  have cA := fun w => Lib.hid (awake_any w)
  have c1 := fun w p (h : Nob w p) => Lib.hid (NRead h (.int .u32 (i : Int)))
  have c2 := fun w p (h : Nob w p) u => Lib.hid (NWrite h (.int .u32 (i : Int)) u)
  have c3 := fun w p (h : Nob w p) => Lib.hid (NBlocks h)
  have c4 := fun w p (h : Nob w p) => Lib.hid (NBytes h)
  have c5 := fun w p (h : Nob w p) => Lib.hid (NStats h)
  have c6 := fun w p (h : Nob w p) => Lib.hid (NImage h)
  generalize Value.slice A b.length c = u at *
  go_enter Try.func6, Try.ntmps6
  go_wp2
  have hB0 : Below w.heap.size w ((w.alloc (Obj.cells #[.int .i64 0, .slice none 0 0, .int .u64 0, .int .u64 0] 58)).alloc (Obj.cells #[Value.pointer none, Value.pointer (some { block := w.heap.size, off := 0 })] 25)) :=
    ((Below.refl _ _).alloc (Nat.le_refl _) _).alloc (by simp) _
  have e1 : ((w.alloc (Obj.cells #[.int .i64 0, .slice none 0 0, .int .u64 0, .int .u64 0] 58)).alloc (Obj.cells #[Value.pointer none, Value.pointer (some { block := w.heap.size, off := 0 })] 25)).heap[w.heap.size + 1]? = some (.cells #[Value.pointer none, Value.pointer (some { block := w.heap.size, off := 0 })] 25 (0, 0)) := by
    have := heap_alloc_new (w.alloc (Obj.cells #[.int .i64 0, .slice none 0 0, .int .u64 0, .int .u64 0] 58)) (Obj.cells #[Value.pointer none, Value.pointer (some { block := w.heap.size, off := 0 })] 25)
    simpa using this
  have e2 : ((w.alloc (Obj.cells #[.int .i64 0, .slice none 0 0, .int .u64 0, .int .u64 0] 58)).alloc (Obj.cells #[Value.pointer none, Value.pointer (some { block := w.heap.size, off := 0 })] 25)).heap[w.heap.size]? = some (.cells #[.int .i64 0, .slice none 0 0, .int .u64 0, .int .u64 0] 58 (0, 0)) := by
    rw [Below.heap_alloc _ _ _ (by simp)]
    exact heap_alloc_new w _
  generalize (w.alloc (Obj.cells #[.int .i64 0, .slice none 0 0, .int .u64 0, .int .u64 0] 58)).alloc (Obj.cells #[Value.pointer none, Value.pointer (some { block := w.heap.size, off := 0 })] 25) = w1 at *
  have f0 : w1.cell? ⟨w.heap.size + 1, 0, none⟩ = some (.pointer none) := by simp [World.cell?, e1]
  have f1 : w1.cell? ⟨w.heap.size + 1, 1, none⟩ = some (.pointer (some ⟨w.heap.size, 0, none⟩)) := by simp [World.cell?, e1]
  have hN1 : Nob w1 (some ⟨w.heap.size, 0, none⟩) := .inr ⟨_, rfl, e2⟩
  have HB0 := Lib.hid hB0
  have F0 := Lib.hid f0
  have F1 := Lib.hid f1
  have HN1 := Lib.hid hN1
  clear hB0 e1 e2 f0 f1 hN1
  obtain ⟨t, ht⟩ : ∃ t, t = w.heap.size := ⟨_, rfl⟩
  rw [← ht] at F0 F1 HN1 ⊢
  clear ht
  go_loopw [7] (fun i wr => ∃ k : Nat, k ≤ 2 ∧ i = .int .i64 (k : Int) ∧ Hid (Below w1.heap.size w1 wr)) (fun i _ => 2 - (intOf i).toNat)
  case atStart => exact ⟨0, by omega, rfl, Below.refl _ _⟩
  case round =>
    obtain ⟨k, hk, rfl, HB⟩ := hrel
    have hnob : k < 2 → ∃ p, Hid (Nob wr p ∧ ∀ w', Below wr.heap.size wr w' → w'.cell? ⟨t + 1, k, none⟩ = some (.pointer p)) := fun hlt => by
      match k, hlt with
      | 0, _ => exact ⟨none, .inl rfl, fun w' hb => (Below.cell (HB.out.trans (hb.mono HB.out.size)) (p := ⟨t + 1, 0, none⟩) (World.block_lt_of_cell? w1 _ F0.out)).trans F0.out⟩
      | 1, _ => exact ⟨_, HN1.out.kept HB.out, fun w' hb => (Below.cell (HB.out.trans (hb.mono HB.out.size)) (p := ⟨t + 1, 1, none⟩) (World.block_lt_of_cell? w1 _ F1.out)).trans F1.out⟩
    by_cases hlt : k < 2
    · obtain ⟨p, HN⟩ := hnob hlt
      have d0 := HN.out.2 wr (Below.refl _ _)
      clear hnob
      go_wp2_with (first
        | (go_at_call 15; refine (c1 _ _ HN.out.1).out.mono ?_; rintro e w' ⟨rfl, rfl⟩)
        | (go_at_call 13; refine (c2 _ _ HN.out.1 _).out.mono ?_; rintro e w' ⟨rfl, rfl⟩)
        | (go_at_call 20; refine (c3 _ _ HN.out.1).out.mono ?_; rintro e w' ⟨rfl, rfl⟩)
        | (go_at_call 21; refine (c4 _ _ HN.out.1).out.mono ?_; rintro e w' ⟨rfl, rfl⟩)
        | (go_at_call 18; refine (c5 _ _ HN.out.1).out.mono ?_; rintro e w3 ⟨rfl, hb⟩; have HB3 := Lib.hid hb; have d1 := HN.out.2 _ hb; clear hb)
        | (go_at_call 17; refine (c6 _ _ (HN.out.1.kept HB3.out)).out.mono ?_; rintro e w4 ⟨⟨A4, c4', rfl⟩, hb⟩; have HB4 := Lib.hid hb; clear hb))
      have HX : Hid (Below w1.heap.size w1 w4) := (HB.out.trans (HB3.out.mono HB.out.size)).trans (HB4.out.mono (Nat.le_trans HB.out.size HB3.out.size))
      exact ⟨⟨k + 1, by omega, by go_num, HX⟩, by simp [intOf]; omega⟩
    · obtain rfl : k = 2 := by omega
      clear hnob hlt
      go_wp2_with (go_at_call 9; refine (cA _).out.mono ?_; rintro e w' ⟨rfl, hb⟩; have HB9 := Lib.hid hb; clear hb)
      go_ret
      have h1 : Below w.heap.size w wr := HB0.out.trans (HB.out.mono HB0.out.size)
      exact ⟨rfl, h1.trans (HB9.out.mono h1.size)⟩
end Dv
end Go.Proofs.Ytlkakknelkeegaa
