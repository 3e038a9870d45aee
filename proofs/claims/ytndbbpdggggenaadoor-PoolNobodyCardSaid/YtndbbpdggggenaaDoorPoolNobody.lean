/-
  A pool that nobody made; PoolNobody, walked.
-/
import Derived.Test.YtndbbpdggggenaaDoorPoolAwake
namespace Go.Proofs.YtndbbpdggggenaaDoor
open Go.RowKit
namespace Po
open Mem Bt

/-! ### a row that nobody made -/
theorem Len_nil (w : World) : Calls Tryd.prog 26 #[.pointer none] w fun e w' => e = .returned (.int .i64 0) ∧ w = w' := by
  go_enter Tryd.func26, Tryd.ntmps26
  go_wp2
  go_ret
  exact ⟨rfl, rfl⟩
theorem Count_nil (w : World) : Calls Tryd.prog 27 #[.pointer none] w fun e w' => e = .returned (.int .i64 0) ∧ w = w' := by
  go_enter Tryd.func27, Tryd.ntmps27
  go_wp2
  go_ret
  exact ⟨rfl, rfl⟩
theorem place_nil (i : Int) (w : World) : Calls Tryd.prog 33 #[.pointer none, .int .i64 i] w fun e w' => e = .returned (.int .i64 1) ∧ w = w' := by
  have cL := fun w => Lib.hid (Len_nil w)
  go_enter Tryd.func33, Tryd.ntmps33
  go_wp2_with (go_at_call 26; refine (cL _).out.mono ?_; rintro e w' ⟨rfl, rfl⟩)
  go_ret
  exact ⟨rfl, rfl⟩
theorem Set_nil (i : Int) (w : World) : Calls Tryd.prog 24 #[.pointer none, .int .i64 i] w fun e w' => e = .returned (.int .i64 1) ∧ w = w' := by
  have cP := fun w => Lib.hid (place_nil i w)
  go_enter Tryd.func24, Tryd.ntmps24
  go_wp2_with (go_at_call 33; refine (cP _).out.mono ?_; rintro e w' ⟨rfl, rfl⟩)
  go_ret
  exact ⟨rfl, rfl⟩
theorem Clear_nil (i : Int) (w : World) : Calls Tryd.prog 30 #[.pointer none, .int .i64 i] w fun e w' => e = .returned (.int .i64 1) ∧ w = w' := by
  have cP := fun w => Lib.hid (place_nil i w)
  go_enter Tryd.func30, Tryd.ntmps30
  go_wp2_with (go_at_call 33; refine (cP _).out.mono ?_; rintro e w' ⟨rfl, rfl⟩)
  go_ret
  exact ⟨rfl, rfl⟩
set_option maxHeartbeats 1000000 in
theorem Has_nil (i : Int) (w : World) : Calls Tryd.prog 32 #[.pointer none, .int .i64 i] w fun e w' => e = .returned (.bool false) ∧ Below w.heap.size w w' := by
  have cP := fun w => Lib.hid (place_nil i w)
  go_enter Tryd.func32, Tryd.ntmps32
  go_wp2_with fail
  refine Drift.wp_region_drift [] [(0,[]),(1,[]),(2,[]),(3,[]),(4,[]),(5,[]),(6,[]),(7,[]),(8,[]),(9,[]),(10,[]),(11,[]),(12,[]),(13,[]),(14,[]),(15,[]),(16,[]),(17,[]),(18,[])] [] [] (by kernel_rfl) (by kernel_rfl) (by simp) ?_
  simp only [Drift.pick, Drift.opsAt, List.getElem?_toArray, List.getElem?_cons_zero, List.getElem?_cons_succ, List.cons_append, List.nil_append, List.filterMap_nil]
  repeat (refine Drift.walk_step (fun K hK => ?_); go_simp; first | (refine hK _ ?_; clear hK K) | (apply Exists.intro; refine ⟨fun q => ?_, hK _ ?_⟩; (first | (go_at_call 33; exact (cP _).out.mono fun e w' ⟨he, hw⟩ => ⟨he, by subst hw; exact Below.refl _ _⟩)); clear hK K))
  refine Drift.walk_nil ?_
  intro w2 hb2 _
  have HB2 := Lib.hid hb2
  clear hb2
  simp only [List.length_cons, List.length_nil, List.drop_succ_cons, List.drop_nil, Nat.zero_add, Nat.reduceAdd]
  go_wp2_with fail
  go_ret
  exact ⟨rfl, HB2.out⟩
set_option maxHeartbeats 1000000 in
theorem first_nil (T : Int) (w : World) : Calls Tryd.prog 36 #[.pointer none, .int .i64 0, .int .u64 T] w fun e w' => e = .returned (.tuple #[.int .i64 0, .bool false]) ∧ w = w' := by
  have cL := fun w => Lib.hid (Len_nil w)
  go_enter Tryd.func36, Tryd.ntmps36
  go_wp2
  go_loopw [8] (fun i wr => i = .int .i64 0 ∧ w = wr) (fun _ _ => 0)
  case atStart => exact ⟨rfl, rfl⟩
  case round =>
    obtain ⟨rfl, rfl⟩ := hrel
    go_wp2_with (go_at_call 26; refine (cL _).out.mono ?_; rintro e w' ⟨rfl, rfl⟩)
    exact bodyPost_ret (v := .tuple #[.int .i64 0, .bool false]) (by simp [results, Tryd.results36, go_sem]) rfl ⟨rfl, rfl⟩
theorem Next_nil (w : World) : Calls Tryd.prog 31 #[.pointer none, .int .i64 0] w fun e w' => e = .returned (.tuple #[.int .i64 0, .bool false]) ∧ w = w' := by
  have cF := fun w => Lib.hid (first_nil 0 w)
  go_enter Tryd.func31, Tryd.ntmps31
  go_wp2_with (go_at_call 36; refine (cF _).out.mono ?_; rintro e w' ⟨rfl, rfl⟩)
  exact bodyPost_ret (v := .tuple #[.int .i64 0, .bool false]) (by simp [results, Tryd.results31, go_sem]) rfl ⟨rfl, rfl⟩

/-! ### a pool that nobody made -/
def Nob (w : World) (v : Value) : Prop := v = .pointer none ∨ ∃ q, v = .pointer (some ⟨q, 0, none⟩) ∧ w.cell? ⟨q, 0, none⟩ = some (.pointer none)
theorem Nob.kept {w w' : World} {v : Value} (h : Nob w v) (hb : Below w.heap.size w w') : Nob w' v := by
  rcases h with rfl | ⟨q, rfl, hc⟩
  · exact .inl rfl
  · exact .inr ⟨q, rfl, (hb.cell (Flow.lt_of_cell hc)).trans hc⟩
theorem row_nob {w : World} {v : Value} (h : Nob w v) : Calls Tryd.prog 25 #[v] w fun e w' => e = .returned (.pointer none) ∧ w = w' := by
  rcases h with rfl | ⟨q, rfl, hc⟩
  · exact row_nil w
  · exact row_at q _ w hc
section
variable {w : World} {v : Value}
theorem Held_nob (h : Nob w v) : Calls Tryd.prog 9 #[v] w fun e w' => e = .returned (.int .i64 0) ∧ w = w' := by
  have cR := Lib.hid (row_nob h)
  have cC := Lib.hid (Count_nil w)
  clear h
  go_enter Tryd.func9, Tryd.ntmps9
  go_wp2_with (first
    | (go_at_call 25; refine cR.out.mono ?_; rintro e w' ⟨rfl, rfl⟩)
    | (go_at_call 27; refine cC.out.mono ?_; rintro e w' ⟨rfl, rfl⟩))
  go_ret
  exact ⟨rfl, rfl⟩
theorem Free_nob (h : Nob w v) : Calls Tryd.prog 8 #[v] w fun e w' => e = .returned (.int .i64 0) ∧ w = w' := by
  have cR := Lib.hid (row_nob h)
  have cL := Lib.hid (Len_nil w)
  have cH := Lib.hid (Held_nob h)
  clear h
  go_enter Tryd.func8, Tryd.ntmps8
  go_wp2_with (first
    | (go_at_call 25; refine cR.out.mono ?_; rintro e w' ⟨rfl, rfl⟩)
    | (go_at_call 26; refine cL.out.mono ?_; rintro e w' ⟨rfl, rfl⟩)
    | (go_at_call 9; refine cH.out.mono ?_; rintro e w' ⟨rfl, rfl⟩))
  go_ret
  exact ⟨rfl, rfl⟩
theorem Grab_nob (h : Nob w v) (k : Int) : Calls Tryd.prog 13 #[v, .int .i64 k] w fun e w' => e = .returned (.tuple #[.slice none 0 0, .int .i64 1]) ∧ w = w' := by
  have cR := Lib.hid (row_nob h)
  clear h
  go_enter Tryd.func13, Tryd.ntmps13
  go_wp2_with (go_at_call 25; refine cR.out.mono ?_; rintro e w' ⟨rfl, rfl⟩)
  exact bodyPost_ret (v := .tuple #[.slice none 0 0, .int .i64 1]) (by simp [results, Tryd.results13, go_sem]) rfl ⟨rfl, rfl⟩
theorem Take_nob (h : Nob w v) : Calls Tryd.prog 12 #[v] w fun e w' => e = .returned (.tuple #[.int .u32 0, .int .i64 1]) ∧ w = w' := by
  have cG := Lib.hid (Grab_nob h 1)
  clear h
  go_enter Tryd.func12, Tryd.ntmps12
  go_wp2_with (go_at_call 13; refine cG.out.mono ?_; rintro e w' ⟨rfl, rfl⟩)
  exact bodyPost_ret (v := .tuple #[.int .u32 0, .int .i64 1]) (by simp [results, Tryd.results12, go_sem]) rfl ⟨rfl, rfl⟩
theorem Mark_nob (h : Nob w v) (i : Nat) (hi : i < 4294967296) : Calls Tryd.prog 16 #[v, .int .u32 (i : Int)] w fun e w' => e = .returned (.int .i64 1) ∧ w = w' := by
  have cR := Lib.hid (row_nob h)
  have cS := Lib.hid (Set_nil (i : Int) w)
  have hw : IntKind.i64.wrap (i : Int) = (i : Int) := by rw [IntKind.wrap_i64]; omega
  clear h
  go_enter Tryd.func16, Tryd.ntmps16
  go_wp2_with (first
    | (go_at_call 25; refine cR.out.mono ?_; rintro e w' ⟨rfl, rfl⟩)
    | (go_at_call 24; refine cS.out.mono ?_; rintro e w' ⟨rfl, rfl⟩))
  go_ret
  exact ⟨rfl, rfl⟩
theorem Give_nob (h : Nob w v) (i : Nat) (hi : i < 4294967296) : Calls Tryd.prog 18 #[v, .int .u32 (i : Int)] w fun e w' => e = .returned (.int .i64 1) ∧ w = w' := by
  have cR := Lib.hid (row_nob h)
  have cS := Lib.hid (Clear_nil (i : Int) w)
  have hw : IntKind.i64.wrap (i : Int) = (i : Int) := by rw [IntKind.wrap_i64]; omega
  clear h
  go_enter Tryd.func18, Tryd.ntmps18
  go_wp2_with (first
    | (go_at_call 25; refine cR.out.mono ?_; rintro e w' ⟨rfl, rfl⟩)
    | (go_at_call 30; refine cS.out.mono ?_; rintro e w' ⟨rfl, rfl⟩))
  go_ret
  exact ⟨rfl, rfl⟩
theorem Has_nob (h : Nob w v) (i : Nat) (hi : i < 4294967296) : Calls Tryd.prog 22 #[v, .int .u32 (i : Int)] w fun e w' => e = .returned (.bool false) ∧ Below w.heap.size w w' := by
  have cR := Lib.hid (row_nob h)
  have cS := Lib.hid (Has_nil (i : Int) w)
  have hw : IntKind.i64.wrap (i : Int) = (i : Int) := by rw [IntKind.wrap_i64]; omega
  clear h
  go_enter Tryd.func22, Tryd.ntmps22
  go_wp2_with (first
    | (go_at_call 25; refine cR.out.mono ?_; rintro e w' ⟨rfl, rfl⟩)
    | (go_at_call 32; refine cS.out.mono ?_; rintro e w1 ⟨rfl, hb⟩; have HB := Lib.hid hb; clear hb))
  go_ret
  exact ⟨rfl, HB.out⟩
theorem Row_nob (h : Nob w v) : Calls Tryd.prog 19 #[v] w fun e w' => (∃ A c, e = .returned (.slice A 0 c)) ∧ Below w.heap.size w w' := by
  have HN := Lib.hid h
  have cH := Lib.hid (Held_nob h)
  have hmk : ∀ w : World, (Instr.makeSlice 34 (.int .i64 0) (.int .i64 0)).run Tryd.prog w = .ok (.slice (some ⟨w.heap.size, 0, none⟩) 0 0) (w.alloc (.cells #[] 23)) := fun w => by
    have := run_make_empty (P := Tryd.prog) Tryd.underlying34 u32info rfl (by omega) 0 (by omega) w
    simpa using this
  have cR := fun w h => Lib.hid (row_nob (w := w) (v := v) h)
  have cN := fun w => Lib.hid (Next_nil w)
  clear h
  go_enter Tryd.func19, Tryd.ntmps19
  go_upto_region 2 with (go_at_call 9; refine cH.out.mono ?_; rintro e w' ⟨rfl, rfl⟩)
  have hb : Below w.heap.size w (w.alloc (.cells #[] 23)) := (Below.refl _ _).alloc (Nat.le_refl _) _
  have HB := Lib.hid hb
  have HN1 := Lib.hid (HN.out.kept hb)
  generalize w.alloc (.cells #[] 23) = w1 at *
  clear hb cH hmk
  go_wp2_with (first
    | (go_at_call 25; refine (cR _ HN1.out).out.mono ?_; rintro e w' ⟨rfl, rfl⟩)
    | (go_at_call 31; refine (cN _).out.mono ?_; rintro e w' ⟨rfl, rfl⟩))
  go_loopw [3, 5] (fun x y wr => (∃ A c, x = .slice A 0 c) ∧ y = .bool false ∧ w1 = wr) (fun _ _ _ => 0)
  case atStart => exact ⟨⟨_, _, rfl⟩, rfl, rfl⟩
  case round =>
    obtain ⟨⟨A, c, rfl⟩, rfl, rfl⟩ := hrel
    go_wp2_with fail
    go_ret
    exact ⟨⟨_, _, rfl⟩, HB.out⟩
end

set_option maxHeartbeats 2000000 in
set_option maxRecDepth 100000 in
theorem PoolNobody_walk (i : Nat) (k : Int) (w : World) (hi : i < 4294967296) (_ : (Lit.int .i64 k).wf = true) (hT : Tab w) :
    Calls Tryd.prog 5 #[.int .u32 (i : Int), .int .i64 k] w fun e w' => e = .returned (.bool true) ∧ Below w.heap.size w w' := by
  have cA := fun w hT => Lib.hid (awake_any w hT)
  have HT := Lib.hid hT
  have cT := fun w v h => Lib.hid (Take_nob (w := w) (v := v) h)
  have cG := fun w v h => Lib.hid (Grab_nob (w := w) (v := v) h k)
  have cM := fun w v h => Lib.hid (Mark_nob (w := w) (v := v) h i hi)
  have cV := fun w v h => Lib.hid (Give_nob (w := w) (v := v) h i hi)
  have cH := fun w v h => Lib.hid (Has_nob (w := w) (v := v) h i hi)
  have cF := fun w v h => Lib.hid (Free_nob (w := w) (v := v) h)
  have cD := fun w v h => Lib.hid (Held_nob (w := w) (v := v) h)
  have cR := fun w v h => Lib.hid (Row_nob (w := w) (v := v) h)
  clear hT
  go_enter Tryd.func5, Tryd.ntmps5
  go_upto_region 3 with fail
  obtain ⟨q, hq⟩ : ∃ q, q = w.heap.size := ⟨_, rfl⟩
  have hb : Below w.heap.size w ((w.alloc (.cells #[.pointer none] 55)).alloc (.cells #[.pointer none, .pointer (some ⟨w.heap.size, 0, none⟩)] 24)) := ((Below.refl _ _).alloc (Nat.le_refl _) _).alloc (by simp) _
  have h1 : ((w.alloc (.cells #[.pointer none] 55)).alloc (.cells #[.pointer none, .pointer (some ⟨w.heap.size, 0, none⟩)] 24)).heap[w.heap.size + 1]? = some (.cells #[.pointer none, .pointer (some ⟨w.heap.size, 0, none⟩)] 24 (0, 0)) := by
    have := heap_alloc_new (w.alloc (.cells #[.pointer none] 55)) (.cells #[.pointer none, .pointer (some ⟨w.heap.size, 0, none⟩)] 24)
    simpa using this
  have h2 : ((w.alloc (.cells #[.pointer none] 55)).alloc (.cells #[.pointer none, .pointer (some ⟨w.heap.size, 0, none⟩)] 24)).heap[w.heap.size]? = some (.cells #[.pointer none] 55 (0, 0)) := by
    have h3 := heap_alloc_new w (.cells #[.pointer none] 55)
    have h4 : Below (w.alloc (.cells #[.pointer none] 55)).heap.size (w.alloc (.cells #[.pointer none] 55)) ((w.alloc (.cells #[.pointer none] 55)).alloc (.cells #[.pointer none, .pointer (some ⟨w.heap.size, 0, none⟩)] 24)) := (Below.refl _ _).alloc (Nat.le_refl _) _
    rw [h4.block w.heap.size (by simp)]
    exact h3
  generalize ((w.alloc (.cells #[.pointer none] 55)).alloc (.cells #[.pointer none, .pointer (some ⟨w.heap.size, 0, none⟩)] 24)) = w1 at *
  rw [← hq] at h1 h2
  simp only [← hq]
  have HB := Lib.hid hb
  have H1 : Hid (w1.cell? ⟨q + 1, 0, none⟩ = some (.pointer none) ∧ w1.cell? ⟨q + 1, 1, none⟩ = some (.pointer (some ⟨q, 0, none⟩))) := by
    unfold Hid
    simp [World.cell?, h1]
  have H2 : Hid (w1.cell? ⟨q, 0, none⟩ = some (.pointer none)) := by
    unfold Hid
    simp [World.cell?, h2]
  clear hb h1 h2 hq
  go_wp2
  go_loopw [7] (fun n wr => ∃ j : Nat, j ≤ 2 ∧ n = .int .i64 (j : Int) ∧ Hid (Below w1.heap.size w1 wr)) (fun n _ => 2 - (intOf n).toNat)
  case atStart => exact ⟨0, by omega, rfl, Below.refl _ _⟩
  case round =>
    obtain ⟨j, hj, rfl, HBR⟩ := hrel
    have e0 := (HBR.out.cell (Flow.lt_of_cell H1.out.1)).trans H1.out.1
    have e1 := (HBR.out.cell (Flow.lt_of_cell H1.out.2)).trans H1.out.2
    have e2 := (HBR.out.cell (Flow.lt_of_cell H2.out)).trans H2.out
    by_cases j0 : j = 0
    · subst j0
      have HN : Hid (Nob wr (.pointer none)) := .inl rfl
      clear e1 e2 cA
      go_wp2_with (first
        | (go_at_call 12; refine (cT _ _ HN.out).out.mono ?_; rintro e w' ⟨rfl, rfl⟩)
        | (go_at_call 13; refine (cG _ _ HN.out).out.mono ?_; rintro e w' ⟨rfl, rfl⟩)
        | (go_at_call 16; refine (cM _ _ HN.out).out.mono ?_; rintro e w' ⟨rfl, rfl⟩)
        | (go_at_call 18; refine (cV _ _ HN.out).out.mono ?_; rintro e w' ⟨rfl, rfl⟩)
        | (go_at_call 22; refine (cH _ _ HN.out).out.mono ?_; rintro e w2 ⟨rfl, hb⟩; have HN2 := Lib.hid (HN.out.kept hb); have HB2 := Lib.hid (HBR.out.trans (hb.mono HBR.out.size)); clear hb)
        | (go_at_call 8; refine (cF _ _ HN2.out).out.mono ?_; rintro e w' ⟨rfl, rfl⟩)
        | (go_at_call 9; refine (cD _ _ HN2.out).out.mono ?_; rintro e w' ⟨rfl, rfl⟩)
        | (go_at_call 19; refine (cR _ _ HN2.out).out.mono ?_; rintro e w3 ⟨⟨A, c, rfl⟩, hb⟩; have HB3 := Lib.hid (HB2.out.trans (hb.mono HB2.out.size)); clear hb))
      exact ⟨⟨1, by omega, rfl, HB3⟩, by simp [intOf]⟩
    by_cases j1 : j = 1
    · subst j1
      have HN : Hid (Nob wr (.pointer (some ⟨q, 0, none⟩))) := .inr ⟨q, rfl, e2⟩
      clear e0 e2 cA
      go_wp2_with (first
        | (go_at_call 12; refine (cT _ _ HN.out).out.mono ?_; rintro e w' ⟨rfl, rfl⟩)
        | (go_at_call 13; refine (cG _ _ HN.out).out.mono ?_; rintro e w' ⟨rfl, rfl⟩)
        | (go_at_call 16; refine (cM _ _ HN.out).out.mono ?_; rintro e w' ⟨rfl, rfl⟩)
        | (go_at_call 18; refine (cV _ _ HN.out).out.mono ?_; rintro e w' ⟨rfl, rfl⟩)
        | (go_at_call 22; refine (cH _ _ HN.out).out.mono ?_; rintro e w2 ⟨rfl, hb⟩; have HN2 := Lib.hid (HN.out.kept hb); have HB2 := Lib.hid (HBR.out.trans (hb.mono HBR.out.size)); clear hb)
        | (go_at_call 8; refine (cF _ _ HN2.out).out.mono ?_; rintro e w' ⟨rfl, rfl⟩)
        | (go_at_call 9; refine (cD _ _ HN2.out).out.mono ?_; rintro e w' ⟨rfl, rfl⟩)
        | (go_at_call 19; refine (cR _ _ HN2.out).out.mono ?_; rintro e w3 ⟨⟨A, c, rfl⟩, hb⟩; have HB3 := Lib.hid (HB2.out.trans (hb.mono HB2.out.size)); clear hb))
      exact ⟨⟨2, by omega, rfl, HB3⟩, by simp [intOf]⟩
    · obtain rfl : j = 2 := by omega
      have HW := Lib.hid (HB.out.trans (HBR.out.mono HB.out.size))
      go_wp2_with (go_at_call 7; refine (cA _ (HT.out.keep (HW.out.block _ HT.out.lt))).out.mono ?_; rintro e w' ⟨rfl, hb⟩; have HL := Lib.hid (HW.out.trans (hb.mono HW.out.size)); clear hb)
      go_ret
      exact ⟨rfl, HL.out⟩
end Po
end Go.Proofs.YtndbbpdggggenaaDoor
