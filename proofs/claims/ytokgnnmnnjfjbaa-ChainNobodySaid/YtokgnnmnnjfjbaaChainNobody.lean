/-
  A chain that nobody made: what its calls tell; ChainNobody, walked.
-/
import Derived.Test.YtokgnnmnnjfjbaaChainAwake
namespace Go.Proofs.Ytokgnnmnnjfjbaa
open Go.RowKit
namespace Cn
open Mem

/-- a pointer to no chain, or to one that nobody made -/
def Nob (w : World) (p : Option Addr) : Prop := p = none ∨ ∃ g, p = some ⟨g, 0, none⟩ ∧ w.cell? ⟨g, 0, none⟩ = some (.slice none 0 0) ∧ w.cell? ⟨g, 1, none⟩ = some (.int .i64 0)
section
variable {w w' : World} {p : Option Addr}
theorem Nob.kept (h : Nob w p) (hb : Below w.heap.size w w') : Nob w' p := by
  rcases h with h | ⟨g, h, h0, h1⟩
  · exact .inl h
  · have hg := World.block_lt_of_cell? w _ h0
    exact .inr ⟨g, h, (hb.cell (p := ⟨g, 0, none⟩) hg).trans h0, (hb.cell (p := ⟨g, 1, none⟩) hg).trans h1⟩
theorem NLen (h : Nob w p) : Calls Try.prog 19 #[.pointer p] w fun e w' => e = .returned (.int .i64 0) ∧ w = w' := by
  rcases h with rfl | ⟨g, rfl, h0, h1⟩
  · go_enter Try.func19, Try.ntmps19
    go_wp2
    go_ret
    exact ⟨rfl, rfl⟩
  · go_enter Try.func19, Try.ntmps19
    go_wp2
    go_ret
    exact ⟨rfl, rfl⟩
theorem Nplace (h : Nob w p) (i : Int) : Calls Try.prog 22 #[.pointer p, .int .i64 i] w fun e w' => e = .returned (.int .i64 1) ∧ w = w' := by
  rcases h with rfl | ⟨g, rfl, h0, h1⟩
  · go_enter Try.func22, Try.ntmps22
    go_wp2
    go_ret
    exact ⟨rfl, rfl⟩
  · go_enter Try.func22, Try.ntmps22
    go_wp2
    go_ret
    exact ⟨rfl, rfl⟩
theorem NHas (h : Nob w p) (i : Int) : Calls Try.prog 20 #[.pointer p, .int .i64 i] w fun e w' => e = .returned (.bool false) ∧ w = w' := by
  have cP := Lib.hid (Nplace h i)
  clear h
  go_enter Try.func20, Try.ntmps20
  go_wp2_with (go_at_call 22; refine cP.out.mono ?_; rintro e w' ⟨rfl, rfl⟩)
  go_ret
  exact ⟨rfl, rfl⟩
theorem NFront (h : Nob w p) (i : Int) : Calls Try.prog 8 #[.pointer p, .int .i64 i] w fun e w' => e = .returned (.int .i64 1) ∧ w = w' := by
  have cP := Lib.hid (Nplace h i)
  clear h
  go_enter Try.func8, Try.ntmps8
  go_wp2_with (go_at_call 22; refine cP.out.mono ?_; rintro e w' ⟨rfl, rfl⟩)
  go_ret
  exact ⟨rfl, rfl⟩
theorem NBack (h : Nob w p) (i : Int) : Calls Try.prog 10 #[.pointer p, .int .i64 i] w fun e w' => e = .returned (.int .i64 1) ∧ w = w' := by
  have cP := Lib.hid (Nplace h i)
  clear h
  go_enter Try.func10, Try.ntmps10
  go_wp2_with (go_at_call 22; refine cP.out.mono ?_; rintro e w' ⟨rfl, rfl⟩)
  go_ret
  exact ⟨rfl, rfl⟩
theorem NCut (h : Nob w p) (i : Int) : Calls Try.prog 12 #[.pointer p, .int .i64 i] w fun e w' => e = .returned (.int .i64 1) ∧ w = w' := by
  have cP := Lib.hid (Nplace h i)
  clear h
  go_enter Try.func12, Try.ntmps12
  go_wp2_with (go_at_call 22; refine cP.out.mono ?_; rintro e w' ⟨rfl, rfl⟩)
  go_ret
  exact ⟨rfl, rfl⟩
theorem NFirst (h : Nob w p) : Calls Try.prog 15 #[.pointer p] w fun e w' => e = .returned (.tuple #[.int .i64 0, .bool false]) ∧ w = w' := by
  have cL := Lib.hid (NLen h)
  clear h
  go_enter Try.func15, Try.ntmps15
  go_wp2_with (go_at_call 19; refine cL.out.mono ?_; rintro e w' ⟨rfl, rfl⟩)
  exact bodyPost_ret (v := .tuple #[.int .i64 0, .bool false]) (by simp [results, Try.results15, go_sem]) rfl ⟨rfl, rfl⟩
theorem NLast (h : Nob w p) : Calls Try.prog 16 #[.pointer p] w fun e w' => e = .returned (.tuple #[.int .i64 0, .bool false]) ∧ w = w' := by
  have cL := Lib.hid (NLen h)
  clear h
  go_enter Try.func16, Try.ntmps16
  go_wp2_with (go_at_call 19; refine cL.out.mono ?_; rintro e w' ⟨rfl, rfl⟩)
  exact bodyPost_ret (v := .tuple #[.int .i64 0, .bool false]) (by simp [results, Try.results16, go_sem]) rfl ⟨rfl, rfl⟩
theorem NRow (h : Nob w p) : Calls Try.prog 18 #[.pointer p] w fun e w' => (∃ A c, e = .returned (.slice A 0 c)) ∧ Below w.heap.size w w' := by
  have HC := Lib.hid h
  have cL := Lib.hid (NLen h)
  have cF := fun w (h : Nob w p) => Lib.hid (NFirst h)
  have hmk := fun w => run_make_room (P := Try.prog) Try.underlying28 intinfo (by omega) 0 (by omega) w
  rw [show ((0 : Nat) : Int) = 0 from rfl] at hmk
  clear h
  go_enter Try.func18, Try.ntmps18
  go_wp2_with (first
    | (go_at_call 19; refine cL.out.mono ?_; rintro e w' ⟨rfl, rfl⟩)
    | (go_at_call 15; refine (cF _ (HC.out.kept ((Below.refl _ _).alloc (Nat.le_refl _) _))).out.mono ?_; rintro e w2 ⟨rfl, rfl⟩))
  obtain ⟨w2, hw2⟩ : ∃ w2, w2 = w.alloc (Obj.cells #[] 3) := ⟨_, rfl⟩
  have HB2 : Hid (Below w.heap.size w w2) := by rw [hw2]; exact (Below.refl _ _).alloc (Nat.le_refl _) _
  first | rw [← hw2] | skip
  go_loopw [3, 4] (fun r _ wr => r = .slice (some ⟨w.heap.size, 0, none⟩) 0 0 ∧ wr = w2) (fun _ _ _ => 0)
  case atStart => exact ⟨rfl, by first | rfl | (rw [hw2]; rfl) | (rw [hw2]; simp)⟩
  case round =>
    obtain ⟨rfl, rfl⟩ := hrel
    clear hw2
    go_wp2
    go_ret
    exact ⟨⟨_, _, rfl⟩, HB2.out⟩
end
set_option maxHeartbeats 4000000 in
set_option maxRecDepth 100000 in
theorem ChainNobody_walk (i : Int) (w : World) (_ : (Lit.int .i64 i).wf = true) : Calls Try.prog 5 #[.int .i64 i] w fun e w' => e = .returned (.bool true) ∧ Below w.heap.size w w' := by
  have cA := fun w => Lib.hid (awake_any w)
  have c1 := fun w p (h : Nob w p) => Lib.hid (NFirst h)
  have c2 := fun w p (h : Nob w p) => Lib.hid (NLast h)
  have c3 := fun w p (h : Nob w p) => Lib.hid (NFront h i)
  have c4 := fun w p (h : Nob w p) => Lib.hid (NBack h i)
  have c5 := fun w p (h : Nob w p) => Lib.hid (NCut h i)
  have c6 := fun w p (h : Nob w p) => Lib.hid (NHas h i)
  have c7 := fun w p (h : Nob w p) => Lib.hid (NLen h)
  have c8 := fun w p (h : Nob w p) => Lib.hid (NRow h)
  go_enter Try.func5, Try.ntmps5
  go_wp2
  have hB0 : Below w.heap.size w ((w.alloc (Obj.cells #[Value.slice none 0 0, Value.int IntKind.i64 0] 46)).alloc (Obj.cells #[Value.pointer none, Value.pointer (some { block := w.heap.size, off := 0 })] 23)) :=
    ((Below.refl _ _).alloc (Nat.le_refl _) _).alloc (by simp) _
  have e1 : ((w.alloc (Obj.cells #[Value.slice none 0 0, Value.int IntKind.i64 0] 46)).alloc (Obj.cells #[Value.pointer none, Value.pointer (some { block := w.heap.size, off := 0 })] 23)).heap[w.heap.size + 1]? = some (.cells #[Value.pointer none, Value.pointer (some { block := w.heap.size, off := 0 })] 23 (0, 0)) := by
    have := heap_alloc_new (w.alloc (Obj.cells #[Value.slice none 0 0, Value.int IntKind.i64 0] 46)) (Obj.cells #[Value.pointer none, Value.pointer (some { block := w.heap.size, off := 0 })] 23)
    simpa using this
  have e2 : ((w.alloc (Obj.cells #[Value.slice none 0 0, Value.int IntKind.i64 0] 46)).alloc (Obj.cells #[Value.pointer none, Value.pointer (some { block := w.heap.size, off := 0 })] 23)).heap[w.heap.size]? = some (.cells #[Value.slice none 0 0, Value.int IntKind.i64 0] 46 (0, 0)) := by
    rw [Below.heap_alloc _ _ _ (by simp)]
    exact heap_alloc_new w _
  generalize (w.alloc (Obj.cells #[Value.slice none 0 0, Value.int IntKind.i64 0] 46)).alloc (Obj.cells #[Value.pointer none, Value.pointer (some { block := w.heap.size, off := 0 })] 23) = w1 at *
  have f0 : w1.cell? ⟨w.heap.size + 1, 0, none⟩ = some (.pointer none) := by simp [World.cell?, e1]
  have f1 : w1.cell? ⟨w.heap.size + 1, 1, none⟩ = some (.pointer (some ⟨w.heap.size, 0, none⟩)) := by simp [World.cell?, e1]
  have hN1 : Nob w1 (some ⟨w.heap.size, 0, none⟩) := .inr ⟨_, rfl, by simp [World.cell?, e2], by simp [World.cell?, e2]⟩
  have HB0 := Lib.hid hB0
  have F0 := Lib.hid f0
  have F1 := Lib.hid f1
  have HN1 := Lib.hid hN1
  clear hB0 e1 e2 f0 f1 hN1
  obtain ⟨t, ht⟩ : ∃ t, t = w.heap.size := ⟨_, rfl⟩
  have HT := Lib.hid ht
  rw [← ht] at F0 F1 HN1 ⊢
  clear ht
  go_loopw [5] (fun i wr => ∃ k : Nat, k ≤ 2 ∧ i = .int .i64 (k : Int) ∧ Hid (Below w1.heap.size w1 wr)) (fun i _ => 2 - (intOf i).toNat)
  case atStart => exact ⟨0, by omega, rfl, Below.refl _ _⟩
  case round =>
    obtain ⟨k, hk, rfl, HB⟩ := hrel
    match k, hk with
    | 0, _ =>
        have d0 := (Below.cell HB.out (p := ⟨t + 1, 0, none⟩) (World.block_lt_of_cell? w1 _ F0.out)).trans F0.out
        have HN : Hid (Nob wr none) := .inl rfl
        go_wp2_with (first
          | (go_at_call 15; refine (c1 _ _ HN.out).out.mono ?_; rintro e w' ⟨rfl, rfl⟩)
          | (go_at_call 16; refine (c2 _ _ HN.out).out.mono ?_; rintro e w' ⟨rfl, rfl⟩)
          | (go_at_call 8; refine (c3 _ _ HN.out).out.mono ?_; rintro e w' ⟨rfl, rfl⟩)
          | (go_at_call 10; refine (c4 _ _ HN.out).out.mono ?_; rintro e w' ⟨rfl, rfl⟩)
          | (go_at_call 12; refine (c5 _ _ HN.out).out.mono ?_; rintro e w' ⟨rfl, rfl⟩)
          | (go_at_call 20; refine (c6 _ _ HN.out).out.mono ?_; rintro e w' ⟨rfl, rfl⟩)
          | (go_at_call 19; refine (c7 _ _ HN.out).out.mono ?_; rintro e w' ⟨rfl, rfl⟩)
          | (go_at_call 18; refine (c8 _ _ HN.out).out.mono ?_; rintro e w3 ⟨⟨A3, c3', rfl⟩, hb⟩; have HB3 := Lib.hid hb; clear hb))
        exact ⟨⟨1, by omega, rfl, HB.out.trans (HB3.out.mono HB.out.size)⟩, by simp [intOf]⟩
    | 1, _ =>
        have d0 := (Below.cell HB.out (p := ⟨t + 1, 1, none⟩) (World.block_lt_of_cell? w1 _ F1.out)).trans F1.out
        have HN := Lib.hid (HN1.out.kept HB.out)
        go_wp2_with (first
          | (go_at_call 15; refine (c1 _ _ HN.out).out.mono ?_; rintro e w' ⟨rfl, rfl⟩)
          | (go_at_call 16; refine (c2 _ _ HN.out).out.mono ?_; rintro e w' ⟨rfl, rfl⟩)
          | (go_at_call 8; refine (c3 _ _ HN.out).out.mono ?_; rintro e w' ⟨rfl, rfl⟩)
          | (go_at_call 10; refine (c4 _ _ HN.out).out.mono ?_; rintro e w' ⟨rfl, rfl⟩)
          | (go_at_call 12; refine (c5 _ _ HN.out).out.mono ?_; rintro e w' ⟨rfl, rfl⟩)
          | (go_at_call 20; refine (c6 _ _ HN.out).out.mono ?_; rintro e w' ⟨rfl, rfl⟩)
          | (go_at_call 19; refine (c7 _ _ HN.out).out.mono ?_; rintro e w' ⟨rfl, rfl⟩)
          | (go_at_call 18; refine (c8 _ _ HN.out).out.mono ?_; rintro e w3 ⟨⟨A3, c3', rfl⟩, hb⟩; have HB3 := Lib.hid hb; clear hb))
        exact ⟨⟨2, by omega, rfl, HB.out.trans (HB3.out.mono HB.out.size)⟩, by simp [intOf]⟩
    | 2, _ =>
        go_wp2_with (go_at_call 7; refine (cA _).out.mono ?_; rintro e w' ⟨rfl, hb⟩; have HB9 := Lib.hid hb; clear hb)
        go_ret
        have h1 : Below w.heap.size w wr := HB0.out.trans (HB.out.mono HB0.out.size)
        exact ⟨rfl, h1.trans (HB9.out.mono h1.size)⟩
end Cn
end Go.Proofs.Ytokgnnmnnjfjbaa
