/-
  CacheNobody, walked.
-/
import Derived.Test.YtcpdbdaallbphaaCacheLaw
namespace Go.Proofs.Ytcpdbdaallbphaa
open Go.RowKit
namespace Ca
open Mem Dv Cn Po

/-- a cache that nobody made -/
def Nob (w : World) (p : Option Addr) : Prop := p = none ∨ ∃ g, p = some ⟨g, 0, none⟩ ∧ w.cell? ⟨g, 0, none⟩ = some (.pointer none)
theorem Nob.kept {w w' : World} {p : Option Addr} (h : Nob w p) (hb : Below w.heap.size w w') : Nob w' p := by
  rcases h with h | ⟨g, rfl, h⟩
  · exact .inl h
  · exact .inr ⟨g, rfl, (Below.cell hb (p := ⟨g, 0, none⟩) (World.block_lt_of_cell? w _ h)).trans h⟩
section
variable {w : World} {p : Option Addr}
set_option maxRecDepth 100000 in
theorem NisMade (h : Nob w p) : Calls Try.prog 46 #[.pointer p] w fun e w' => e = .returned (.bool false) ∧ w = w' := by
  rcases h with rfl | ⟨g, rfl, h⟩
  · go_enter Try.func46, Try.ntmps46
    go_wp2
    go_ret
    exact ⟨rfl, rfl⟩
  · go_enter Try.func46, Try.ntmps46
    go_wp2
    go_ret
    exact ⟨rfl, rfl⟩
set_option maxRecDepth 100000 in
theorem Nplace (h : Nob w p) (i : Int) : Calls Try.prog 52 #[.pointer p, .int .u32 i] w fun e w' => e = .returned (.int .i64 1) ∧ w = w' := by
  have cM := Lib.hid (NisMade h)
  clear h
  go_enter Try.func52, Try.ntmps52
  go_wp2_with (go_at_call 46; refine cM.out.mono ?_; rintro e w' ⟨rfl, rfl⟩)
  go_ret
  exact ⟨rfl, rfl⟩
set_option maxRecDepth 100000 in
theorem NPins (h : Nob w p) (i : Int) : Calls Try.prog 18 #[.pointer p, .int .u32 i] w fun e w' => e = .returned (.int .i64 0) ∧ w = w' := by
  have cM := Lib.hid (NisMade h)
  clear h
  go_enter Try.func18, Try.ntmps18
  go_wp2_with (go_at_call 46; refine cM.out.mono ?_; rintro e w' ⟨rfl, rfl⟩)
  go_ret
  exact ⟨rfl, rfl⟩
set_option maxRecDepth 100000 in
theorem Npinned (h : Nob w p) (i : Int) : Calls Try.prog 42 #[.pointer p, .int .u32 i] w fun e w' => e = .returned (.tuple #[.pointer none, .int .i64 1]) ∧ w = w' := by
  have cM := Lib.hid (NisMade h)
  clear h
  go_enter Try.func42, Try.ntmps42
  go_wp2_with (go_at_call 46; refine cM.out.mono ?_; rintro e w' ⟨rfl, rfl⟩)
  exact bodyPost_ret (v := .tuple #[.pointer none, .int .i64 1]) (by simp [results, Try.results42, go_sem]) rfl ⟨rfl, rfl⟩
set_option maxRecDepth 100000 in
theorem NPin (h : Nob w p) (i : Int) : Calls Try.prog 27 #[.pointer p, .int .u32 i] w fun e w' => e = .returned (.int .i64 1) ∧ w = w' := by
  have cM := Lib.hid (Nplace h i)
  clear h
  go_enter Try.func27, Try.ntmps27
  go_wp2_with (go_at_call 52; refine cM.out.mono ?_; rintro e w' ⟨rfl, rfl⟩)
  go_ret
  exact ⟨rfl, rfl⟩
set_option maxRecDepth 100000 in
theorem NFresh (h : Nob w p) (i : Int) : Calls Try.prog 28 #[.pointer p, .int .u32 i] w fun e w' => e = .returned (.int .i64 1) ∧ w = w' := by
  have cM := Lib.hid (Nplace h i)
  clear h
  go_enter Try.func28, Try.ntmps28
  go_wp2_with (go_at_call 52; refine cM.out.mono ?_; rintro e w' ⟨rfl, rfl⟩)
  go_ret
  exact ⟨rfl, rfl⟩
set_option maxRecDepth 100000 in
theorem NUnpin (h : Nob w p) (i : Int) : Calls Try.prog 29 #[.pointer p, .int .u32 i] w fun e w' => e = .returned (.int .i64 1) ∧ w = w' := by
  have cM := Lib.hid (Npinned h i)
  clear h
  go_enter Try.func29, Try.ntmps29
  go_wp2_with (go_at_call 42; refine cM.out.mono ?_; rintro e w' ⟨rfl, rfl⟩)
  go_ret
  exact ⟨rfl, rfl⟩
set_option maxRecDepth 100000 in
theorem NRead (h : Nob w p) (i : Int) : Calls Try.prog 13 #[.pointer p, .int .u32 i] w fun e w' => e = .returned (.tuple #[.slice none 0 0, .int .i64 1]) ∧ w = w' := by
  have cM := Lib.hid (Npinned h i)
  clear h
  go_enter Try.func13, Try.ntmps13
  go_wp2_with (go_at_call 42; refine cM.out.mono ?_; rintro e w' ⟨rfl, rfl⟩)
  exact bodyPost_ret (v := .tuple #[.slice none 0 0, .int .i64 1]) (by simp [results, Try.results13, go_sem]) rfl ⟨rfl, rfl⟩
set_option maxRecDepth 100000 in
theorem NWrite (h : Nob w p) (i : Int) (v : Value) : Calls Try.prog 30 #[.pointer p, .int .u32 i, v] w fun e w' => e = .returned (.int .i64 1) ∧ w = w' := by
  have cM := Lib.hid (Npinned h i)
  clear h
  go_enter Try.func30, Try.ntmps30
  go_wp2_with (go_at_call 42; refine cM.out.mono ?_; rintro e w' ⟨rfl, rfl⟩)
  go_ret
  exact ⟨rfl, rfl⟩
set_option maxRecDepth 100000 in
theorem NDrop (h : Nob w p) (i : Int) : Calls Try.prog 31 #[.pointer p, .int .u32 i] w fun e w' => e = .returned (.int .i64 1) ∧ w = w' := by
  have cM := Lib.hid (NisMade h)
  clear h
  go_enter Try.func31, Try.ntmps31
  go_wp2_with (go_at_call 46; refine cM.out.mono ?_; rintro e w' ⟨rfl, rfl⟩)
  go_ret
  exact ⟨rfl, rfl⟩
set_option maxRecDepth 100000 in
theorem NFlush (h : Nob w p) : Calls Try.prog 26 #[.pointer p] w fun e w' => e = .returned (.int .i64 1) ∧ w = w' := by
  have cM := Lib.hid (NisMade h)
  clear h
  go_enter Try.func26, Try.ntmps26
  go_wp2_with (go_at_call 46; refine cM.out.mono ?_; rintro e w' ⟨rfl, rfl⟩)
  go_ret
  exact ⟨rfl, rfl⟩
set_option maxRecDepth 100000 in
theorem NDirty (h : Nob w p) : Calls Try.prog 21 #[.pointer p] w fun e w' => e = .returned (.slice none 0 0) ∧ w = w' := by
  have cM := Lib.hid (NisMade h)
  clear h
  go_enter Try.func21, Try.ntmps21
  go_wp2_with (go_at_call 46; refine cM.out.mono ?_; rintro e w' ⟨rfl, rfl⟩)
  go_ret
  exact ⟨rfl, rfl⟩
set_option maxRecDepth 100000 in
theorem NRow (h : Nob w p) : Calls Try.prog 23 #[.pointer p] w fun e w' => e = .returned (.slice none 0 0) ∧ w = w' := by
  have cM := Lib.hid (NisMade h)
  clear h
  go_enter Try.func23, Try.ntmps23
  go_wp2_with (go_at_call 46; refine cM.out.mono ?_; rintro e w' ⟨rfl, rfl⟩)
  go_ret
  exact ⟨rfl, rfl⟩
set_option maxRecDepth 100000 in
theorem NUsed (h : Nob w p) : Calls Try.prog 24 #[.pointer p] w fun e w' => e = .returned (.int .i64 0) ∧ w = w' := by
  have cM := Lib.hid (NisMade h)
  clear h
  go_enter Try.func24, Try.ntmps24
  go_wp2_with (go_at_call 46; refine cM.out.mono ?_; rintro e w' ⟨rfl, rfl⟩)
  go_ret
  exact ⟨rfl, rfl⟩
end
set_option maxHeartbeats 4000000 in
set_option maxRecDepth 100000 in
theorem CacheNobody_walk (i : Int) (A : Option Addr) (n c : Nat) (m : Int) (w : World) : Calls Try.prog 6 #[.int .u32 i, .slice A n c, .int .i64 m] w fun e w' => e = .returned (.bool true) ∧ Below w.heap.size w w' := by
  have cA := fun w => Lib.hid (awake_any w)
  have cX := fun w => Lib.hid (New_nil w m)
  have c1 := fun w p (h : Nob w p) => Lib.hid (NRead h i)
  have c2 := fun w p (h : Nob w p) => Lib.hid (NPin h i)
  have c3 := fun w p (h : Nob w p) => Lib.hid (NFresh h i)
  have c4 := fun w p (h : Nob w p) => Lib.hid (NUnpin h i)
  have c5 := fun w p (h : Nob w p) => Lib.hid (NWrite h i (.slice A n c))
  have c6 := fun w p (h : Nob w p) => Lib.hid (NDrop h i)
  have c7 := fun w p (h : Nob w p) => Lib.hid (NFlush h)
  have c8 := fun w p (h : Nob w p) => Lib.hid (NPins h i)
  have c9 := fun w p (h : Nob w p) => Lib.hid (NUsed h)
  have c10 := fun w p (h : Nob w p) => Lib.hid (NDirty h)
  have c11 := fun w p (h : Nob w p) => Lib.hid (NRow h)
  go_enter Try.func6, Try.ntmps6
  go_wp2
  have hB0 : Below w.heap.size w ((w.alloc (Obj.cells #[Value.pointer none, Value.slice none 0 0, Value.map none, Value.pointer none] 72)).alloc (Obj.cells #[Value.pointer none, Value.pointer (some { block := w.heap.size, off := 0 })] 28)) :=
    ((Below.refl _ _).alloc (Nat.le_refl _) _).alloc (by simp) _
  have e1 : ((w.alloc (Obj.cells #[Value.pointer none, Value.slice none 0 0, Value.map none, Value.pointer none] 72)).alloc (Obj.cells #[Value.pointer none, Value.pointer (some { block := w.heap.size, off := 0 })] 28)).heap[w.heap.size + 1]? = some (.cells #[Value.pointer none, Value.pointer (some { block := w.heap.size, off := 0 })] 28 (0, 0)) := by
    have := heap_alloc_new (w.alloc (Obj.cells #[Value.pointer none, Value.slice none 0 0, Value.map none, Value.pointer none] 72)) (Obj.cells #[Value.pointer none, Value.pointer (some { block := w.heap.size, off := 0 })] 28)
    simpa using this
  have e2 : ((w.alloc (Obj.cells #[Value.pointer none, Value.slice none 0 0, Value.map none, Value.pointer none] 72)).alloc (Obj.cells #[Value.pointer none, Value.pointer (some { block := w.heap.size, off := 0 })] 28)).heap[w.heap.size]? = some (.cells #[Value.pointer none, Value.slice none 0 0, Value.map none, Value.pointer none] 72 (0, 0)) := by
    rw [Below.heap_alloc _ _ _ (by simp)]
    exact heap_alloc_new w _
  generalize (w.alloc (Obj.cells #[Value.pointer none, Value.slice none 0 0, Value.map none, Value.pointer none] 72)).alloc (Obj.cells #[Value.pointer none, Value.pointer (some { block := w.heap.size, off := 0 })] 28) = w1 at *
  have f0 : w1.cell? ⟨w.heap.size + 1, 0, none⟩ = some (.pointer none) := by simp [World.cell?, e1]
  have f1 : w1.cell? ⟨w.heap.size + 1, 1, none⟩ = some (.pointer (some ⟨w.heap.size, 0, none⟩)) := by simp [World.cell?, e1]
  have hN1 : Nob w1 (some ⟨w.heap.size, 0, none⟩) := .inr ⟨_, rfl, by simp [World.cell?, e2]⟩
  have HB0 := Lib.hid hB0
  have F0 := Lib.hid f0
  have F1 := Lib.hid f1
  have HN1 := Lib.hid hN1
  clear hB0 e1 e2 f0 f1 hN1
  obtain ⟨t, ht⟩ : ∃ t, t = w.heap.size := ⟨_, rfl⟩
  have HT := Lib.hid ht
  rw [← ht] at F0 F1 HN1 ⊢
  clear ht
  go_loopg [9] 2 (fun gk iv wr => ∃ k : Nat, k ≤ 2 ∧ gk = 2 - k ∧ iv = .int .i64 (k : Int) ∧ wr = w1)
  case atStart => exact ⟨0, by omega, rfl, rfl, rfl⟩
  case round =>
    obtain ⟨k, hk, rfl, rfl, rfl⟩ := hrel
    match k, hk with
    | 0, _ =>
        have d0 := F0.out
        have HN : Hid (Nob wr none) := .inl rfl
        go_wp2_with (first
          | (go_at_call 13; refine (c1 _ _ HN.out).out.mono ?_; rintro e w' ⟨rfl, rfl⟩)
          | (go_at_call 27; refine (c2 _ _ HN.out).out.mono ?_; rintro e w' ⟨rfl, rfl⟩)
          | (go_at_call 28; refine (c3 _ _ HN.out).out.mono ?_; rintro e w' ⟨rfl, rfl⟩)
          | (go_at_call 29; refine (c4 _ _ HN.out).out.mono ?_; rintro e w' ⟨rfl, rfl⟩)
          | (go_at_call 30; refine (c5 _ _ HN.out).out.mono ?_; rintro e w' ⟨rfl, rfl⟩)
          | (go_at_call 31; refine (c6 _ _ HN.out).out.mono ?_; rintro e w' ⟨rfl, rfl⟩)
          | (go_at_call 26; refine (c7 _ _ HN.out).out.mono ?_; rintro e w' ⟨rfl, rfl⟩)
          | (go_at_call 18; refine (c8 _ _ HN.out).out.mono ?_; rintro e w' ⟨rfl, rfl⟩)
          | (go_at_call 24; refine (c9 _ _ HN.out).out.mono ?_; rintro e w' ⟨rfl, rfl⟩)
          | (go_at_call 21; refine (c10 _ _ HN.out).out.mono ?_; rintro e w' ⟨rfl, rfl⟩)
          | (go_at_call 23; refine (c11 _ _ HN.out).out.mono ?_; rintro e w' ⟨rfl, rfl⟩))
        go_roundg 1
        case measure => omega
        case rel => exact ⟨1, by omega, rfl, rfl, rfl⟩
    | 1, _ =>
        have d0 := F1.out
        have HN := HN1
        go_wp2_with (first
          | (go_at_call 13; refine (c1 _ _ HN.out).out.mono ?_; rintro e w' ⟨rfl, rfl⟩)
          | (go_at_call 27; refine (c2 _ _ HN.out).out.mono ?_; rintro e w' ⟨rfl, rfl⟩)
          | (go_at_call 28; refine (c3 _ _ HN.out).out.mono ?_; rintro e w' ⟨rfl, rfl⟩)
          | (go_at_call 29; refine (c4 _ _ HN.out).out.mono ?_; rintro e w' ⟨rfl, rfl⟩)
          | (go_at_call 30; refine (c5 _ _ HN.out).out.mono ?_; rintro e w' ⟨rfl, rfl⟩)
          | (go_at_call 31; refine (c6 _ _ HN.out).out.mono ?_; rintro e w' ⟨rfl, rfl⟩)
          | (go_at_call 26; refine (c7 _ _ HN.out).out.mono ?_; rintro e w' ⟨rfl, rfl⟩)
          | (go_at_call 18; refine (c8 _ _ HN.out).out.mono ?_; rintro e w' ⟨rfl, rfl⟩)
          | (go_at_call 24; refine (c9 _ _ HN.out).out.mono ?_; rintro e w' ⟨rfl, rfl⟩)
          | (go_at_call 21; refine (c10 _ _ HN.out).out.mono ?_; rintro e w' ⟨rfl, rfl⟩)
          | (go_at_call 23; refine (c11 _ _ HN.out).out.mono ?_; rintro e w' ⟨rfl, rfl⟩))
        go_roundg 0
        case measure => omega
        case rel => exact ⟨2, by omega, rfl, rfl, rfl⟩
    | 2, _ =>
        go_wp2_with (first
          | (go_at_call 8; refine (cX _).out.mono ?_; rintro e w' ⟨rfl, rfl⟩)
          | (go_at_call 9; refine (cA _).out.mono ?_; rintro e w' ⟨rfl, hb⟩; have HB9 := Lib.hid hb; clear hb))
        go_ret
        exact ⟨rfl, below_all HB0.out HB9.out (Nat.le_refl _)⟩
theorem CacheNobody_gen (i : Nat) (A : Option Addr) (c : Nat) (b : List UInt8) (m : Int) (w : World) (_ : i < 4294967296) (_ : BL w A b) (_ : b.length ≤ c) (_ : b.length ≤ maxLen) (_ : (Lit.int .i64 m).wf = true) : Calls Try.prog 6 #[.int .u32 (i : Int), .slice A b.length c, .int .i64 m] w fun e w' => e = .returned (.bool true) ∧ Below w.heap.size w w' := CacheNobody_walk i A b.length c m w
end Ca
end Go.Proofs.Ytcpdbdaallbphaa
