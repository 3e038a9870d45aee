/-
  The law LexSpans, walked.
-/
import Derived.Test.YteadgfdjpodblaaLexLaw
namespace Go.Proofs.Yteadgfdjpodblaa
open Go.RowKit
namespace Lx
theorem In_is {lo hi : ByteArray} {top : Bool} {key : ByteArray} {v : Bool} (h : inB lo hi top key = v) (w : World) :
    Calls Try.prog 16 #[spanV lo hi top, .string key] w fun e w' => e = .returned (.bool v) ∧ Calm.Kept w w' := by
  subst h; exact In_any lo hi top key w
theorem RIn_is {lo hi : ByteArray} {top : Bool} {key : ByteArray} {v : Bool} (h : inB lo hi top key = v) (hl : lo.size ≤ maxLen) (hk : key.size ≤ maxLen) (w : World) :
    Calls Try.prog 17 #[spanV lo hi top, .string key] w fun e w' => e = .returned (.bool v) ∧ Calm.Kept w w' := by
  subst h; exact RIn_any lo hi top key w hl hk
theorem Empty_is {lo hi : ByteArray} {top : Bool} {v : Bool} (h : emptyB lo hi top = v) (w : World) :
    Calls Try.prog 18 #[spanV lo hi top] w fun e w' => e = .returned (.bool v) ∧ Calm.Kept w w' := by
  subst h; exact Empty_any lo hi top w
theorem REmpty_is {lo hi : ByteArray} {top : Bool} {v : Bool} (h : emptyB lo hi top = v) (hl : lo.size ≤ maxLen) (w : World) :
    Calls Try.prog 19 #[spanV lo hi top] w fun e w' => e = .returned (.bool v) ∧ Calm.Kept w w' := by
  subst h; exact REmpty_any lo hi top w hl
theorem All_is (w : World) : Calls Try.prog 20 #[] w fun e w' => e = .returned (spanV ⟨#[]⟩ ⟨#[]⟩ true) ∧ Calm.Kept w w' := All_any w
theorem awake_is (w : World) : Calls Try.prog 8 #[] w fun e w' => e = .returned (.bool true) ∧ Calm.Kept w w' := awake_any w
theorem in_all (key : ByteArray) : inB ⟨#[]⟩ ⟨#[]⟩ true key = true := by
  have : cmpB ⟨#[]⟩ key ≤ 0 := by
    unfold cmpB
    cases h : key.data.toList <;> simp [Lib.compareBytes]
  simp [inB, this]
/-- what is in a span is behind its end: an empty one has none -/
theorem in_of_empty {lo hi : ByteArray} {top : Bool} {key : ByteArray} (h : emptyB lo hi top = true) : inB lo hi top key = false := by
  unfold emptyB at h
  cases top
  · simp at h
    unfold inB
    by_cases h1 : cmpB lo key ≤ 0
    · have : cmpB hi key ≤ 0 := cmp_trans_le (a := hi.data.toList) (b := lo.data.toList) (c := key.data.toList) h h1
      have h2 : ¬ cmpB key hi < 0 := by
        have : cmpB key hi = -cmpB hi key := cmp_neg _ _
        omega
      simp [h2]
    · simp [h1]
  · simp at h

set_option maxHeartbeats 4000000 in
set_option maxRecDepth 100000 in
theorem LexSpans_walk (lo hi : ByteArray) (top : Bool) (key : ByteArray) (w : World) :
    Calls Try.prog 5 #[spanV lo hi top, .string key] w fun e w' => e = .returned (.bool true) ∧ Below w.heap.size w w' := by
  go_enter Try.func5, Try.ntmps5
  go_wp2_with fail
  refine (long_any [lo, hi, key] _ _ (by simp) ?_).mono ?_
  · intro j hj
    match j, hj with
    | 0, _ => simp [go_sem]
    | 1, _ => simp [go_sem]
    | 2, _ => simp [go_sem]
  rintro e w1 ⟨rfl, rfl⟩
  cases hl : longB [lo, hi, key]
  · have hs := longB_all hl
    have hsa : lo.size ≤ maxLen := by have := hs lo (by simp); unfold maxLen; omega
    have hsk : key.size ≤ maxLen := by have := hs key (by simp); unfold maxLen; omega
    clear hs hl
    have cAll := in_all key
    cases he : emptyB lo hi top
    · obtain ⟨v, hv⟩ : ∃ v, inB lo hi top key = v := ⟨_, rfl⟩
      go_wp2_with fail
      generalize hX : (w.alloc _).alloc _ = X
      have hb0 : Below w.heap.size w X := by rw [← hX]; exact Calm.ba (Calm.ba (Calm.br _) _) _
      have a0 : X.cell? ⟨w.heap.size, 0, none⟩ = some (.string lo) := by rw [← hX]; simp [go_sem]
      have a1 : X.cell? ⟨w.heap.size, 1, none⟩ = some (.string hi) := by rw [← hX]; simp [go_sem]
      have a2 : X.cell? ⟨w.heap.size, 2, none⟩ = some (.bool top) := by rw [← hX]; simp [go_sem]
      have a0' := cell_regrown a0
      have a1' := cell_regrown a1
      have a2' := cell_regrown a2
      have c16 := fun w => Lib.hid (In_is hv w)
      have c16' := fun w => Lib.hid (In_is cAll w)
      have c17 := fun w => Lib.hid (RIn_is hv hsa hsk w)
      have c18 := fun w => Lib.hid (Empty_is he w)
      have c19 := fun w => Lib.hid (REmpty_is he hsa w)
      clear hX a0 a1 a2 hv he cAll
      refine Calm.wp_region_tail 33 (by kernel_rfl) (by kernel_rfl) ?_
      simp only [List.take_succ_cons, List.take_zero, List.drop_succ_cons, List.drop_zero]
      repeat (refine Calm.wpCalm_step (fun K hK => ?_); go_simp; first | (refine hK _ ?_; clear hK K) | (apply Exists.intro; refine ⟨fun _ => ?_, hK _ ?_⟩; (first | (go_at_call 20; exact All_is _) | (go_at_call 8; exact awake_is _) | (go_at_call_of 16 (Value.string lo); exact (c16 _).out) | (go_at_call 16; exact (c16' _).out) | (go_at_call 17; exact (c17 _).out) | (go_at_call 18; exact (c18 _).out) | (go_at_call 19; exact (c19 _).out)); clear hK K))
      refine Calm.wpCalm_nil ?_
      intro w1 hb1
      go_wp2_with fail
      go_ret
      exact ⟨rfl, Calm.bt hb0 hb1⟩
    · have hv : inB lo hi top key = false := in_of_empty he
      go_wp2_with fail
      generalize hX : (w.alloc _).alloc _ = X
      have hb0 : Below w.heap.size w X := by rw [← hX]; exact Calm.ba (Calm.ba (Calm.br _) _) _
      have a0 : X.cell? ⟨w.heap.size, 0, none⟩ = some (.string lo) := by rw [← hX]; simp [go_sem]
      have a1 : X.cell? ⟨w.heap.size, 1, none⟩ = some (.string hi) := by rw [← hX]; simp [go_sem]
      have a2 : X.cell? ⟨w.heap.size, 2, none⟩ = some (.bool top) := by rw [← hX]; simp [go_sem]
      have a0' := cell_regrown a0
      have a1' := cell_regrown a1
      have a2' := cell_regrown a2
      have c16 := fun w => Lib.hid (In_is hv w)
      have c16' := fun w => Lib.hid (In_is cAll w)
      have c17 := fun w => Lib.hid (RIn_is hv hsa hsk w)
      have c18 := fun w => Lib.hid (Empty_is he w)
      have c19 := fun w => Lib.hid (REmpty_is he hsa w)
      clear hX a0 a1 a2 hv he cAll
      refine Calm.wp_region_tail 33 (by kernel_rfl) (by kernel_rfl) ?_
      simp only [List.take_succ_cons, List.take_zero, List.drop_succ_cons, List.drop_zero]
      repeat (refine Calm.wpCalm_step (fun K hK => ?_); go_simp; first | (refine hK _ ?_; clear hK K) | (apply Exists.intro; refine ⟨fun _ => ?_, hK _ ?_⟩; (first | (go_at_call 20; exact All_is _) | (go_at_call 8; exact awake_is _) | (go_at_call_of 16 (Value.string lo); exact (c16 _).out) | (go_at_call 16; exact (c16' _).out) | (go_at_call 17; exact (c17 _).out) | (go_at_call 18; exact (c18 _).out) | (go_at_call 19; exact (c19 _).out)); clear hK K))
      refine Calm.wpCalm_nil ?_
      intro w1 hb1
      go_wp2_with fail
      go_ret
      exact ⟨rfl, Calm.bt hb0 hb1⟩
  · go_wp2_with fail
    refine (awake_any _).mono ?_
    rintro e w2 ⟨rfl, hb2⟩
    go_wp2_with fail
    go_ret
    exact ⟨rfl, Calm.bt (Calm.ba (Calm.ba (Calm.br _) _) _) hb2⟩
end Lx
end Go.Proofs.Yteadgfdjpodblaa
