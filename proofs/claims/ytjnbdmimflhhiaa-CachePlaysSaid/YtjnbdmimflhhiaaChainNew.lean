/-
  Contracts of layer chain: New.
-/
import Derived.Test.YtjnbdmimflhhiaaChainRows
namespace Go.Proofs.Ytjnbdmimflhhiaa
open Go.RowKit
namespace Cn
open Mem

theorem New_out (n : Int) (w : World) (h : ¬ (1 ≤ n ∧ n ≤ 4096)) : Calls Try.prog 31 #[.int .i64 n] w fun e w' => e = .returned (.tuple #[.pointer none, .int .i64 2]) ∧ w = w' := by
  by_cases h0 : n < 1
  · clear h
    go_enter Try.func31, Try.ntmps31
    go_wp2
    exact bodyPost_ret (v := .tuple #[.pointer none, .int .i64 2]) (by simp [results, Try.results31, go_sem]) rfl ⟨rfl, rfl⟩
  · have h1 : 4096 < n := by omega
    clear h
    go_enter Try.func31, Try.ntmps31
    go_wp2
    exact bodyPost_ret (v := .tuple #[.pointer none, .int .i64 2]) (by simp [results, Try.results31, go_sem]) rfl ⟨rfl, rfl⟩
theorem made_two (n : Nat) : (madeCells #[.int .i64 0, .int .i64 0] n).toList = List.replicate n (.int .i64 0) := by
  apply List.ext_getElem
  · simp [madeCells]
  · intro i h1 h2
    have : i % 2 = 0 ∨ i % 2 = 1 := by omega
    rcases this with e | e <;> simp [madeCells, e]
theorem run_make_links (n : Nat) (hn : n ≤ 4097) (w : World) :
    (Instr.makeSlice 101 (.int .i64 (n : Int)) (.int .i64 (n : Int))).run Try.prog w = .ok (.slice (some ⟨w.heap.size, 0, none⟩) n n) (w.alloc (.cells (List.replicate (n * 2) (.int .i64 0)).toArray 103)) := by
  obtain ⟨i, hi, hz, hs, hb⟩ := info_parts linkinfo
  have hr := run_make (P := Try.prog) w _ _ i _ Try.underlying101 hi hz .i64 .i64 n n (by omega) (by omega) (by rw [hb]; omega) (by omega)
  rw [hr, hs]
  simp only [Int.toNat_natCast]
  rw [show (Value.agg #[.int .i64 0, .int .i64 0]).cells = #[.int .i64 0, .int .i64 0] from rfl, ← made_two]
/-- links of which the first k are laid -/
def first (k j : Nat) : Nat := if j < k then j else 0
theorem first_step (k : Nat) : upd (first k) k k = first (k + 1) := by
  funext j
  unfold upd first
  by_cases h : j = k
  · subst h; simp
  · rw [if_neg h]
    by_cases h2 : j < k
    · rw [if_pos h2, if_pos (by omega)]
    · rw [if_neg h2, if_neg (by omega)]
theorem lkw_made (n : Nat) (hn : n ≤ 4097) (w : World) : LkW (w.alloc (.cells (List.replicate (n * 2) (.int .i64 0)).toArray 103)) w.heap.size n n (first 0) (first 0) := by
  refine ⟨List.replicate (n * 2) (.int .i64 0), ?_, fun i hi => ?_⟩
  · have := World.ownsRow_lit (base := 0) (e := 103) (size := 2) w (List.replicate (n * 2) (.int .i64 0)).toArray n (Nat.zero_le _) (by unfold maxLen; omega) (by simp)
    exact this
  · simp only [List.getElem?_replicate]
    rw [if_pos (by omega), if_pos (by omega)]
    simp [first]
theorem ring_new (n : Nat) : Ring n (first (n + 1)) (first (n + 1)) [] :=
  ⟨fun x hx => (by cases hx), List.nodup_nil, ⟨by simp [first], by simp [first]⟩, fun x hx _ => by unfold first; rw [if_pos (by omega)]⟩
set_option maxHeartbeats 1000000 in
theorem New_in (n : Nat) (w : World) (h0 : 1 ≤ n) (h1 : n ≤ 4096) : Calls Try.prog 31 #[.int .i64 (n : Int)] w fun e w' => (∃ g b, e = .returned (.tuple #[.pointer (some ⟨g, 0, none⟩), .int .i64 0]) ∧ Chn w' g b n [] ∧ w.heap.size ≤ g ∧ w.heap.size ≤ b) ∧ Below w.heap.size w w' := by
  have hmk := fun w => run_make_links (n + 1) (by omega) w
  have hmd := fun w => Lib.hid (lkw_made (n + 1) (by omega) w)
  obtain ⟨m, hm⟩ : ∃ m, m = n + 1 := ⟨_, rfl⟩
  rw [← hm] at hmk hmd
  have hm1 : (n : Int) + 1 = (m : Int) := by omega
  have HMM := Lib.hid hm
  have hm9 : m ≤ 4097 := by omega
  clear hm
  go_enter Try.func31, Try.ntmps31
  go_wp2
  have hB1 : Below w.heap.size w (w.alloc (Obj.cells (Array.replicate (m * 2) (Value.int IntKind.i64 0)) 103)) := (Below.refl _ _).alloc (Nat.le_refl _) _
  have hL1 : LkW (w.alloc (Obj.cells (Array.replicate (m * 2) (Value.int IntKind.i64 0)) 103)) w.heap.size m m (first 0) (first 0) := by
    have := (hmd w).out
    simpa using this
  obtain ⟨wq, hwq⟩ : ∃ wq, wq = w.alloc (Obj.cells (Array.replicate (m * 2) (Value.int IntKind.i64 0)) 103) := ⟨_, rfl⟩
  rw [← hwq] at hB1 hL1 ⊢
  have HB1 := Lib.hid hB1
  have HL1 := Lib.hid hL1
  clear hwq hB1 hL1 hmd hmk
  obtain ⟨t, ht⟩ : ∃ t, t = w.heap.size := ⟨_, rfl⟩
  have HT := Lib.hid ht
  rw [← ht] at HL1 ⊢
  clear ht
  go_loopw [17] (fun i wr => ∃ k : Nat, k ≤ m ∧ i = .int .i64 (k : Int) ∧ Hid (LkW wr t m m (first k) (first k)) ∧ Hid (Below w.heap.size w wr)) (fun i _ => m - (intOf i).toNat)
  case atStart => exact ⟨0, Nat.zero_le _, rfl, HL1, HB1⟩
  case round =>
    obtain ⟨k, hk, rfl, HL, HB⟩ := hrel
    by_cases hlt : k < m
    · have d1 := HL.out.cellA hlt
      have d2 := HL.out.cellB hlt
      have f1 := HL.out.free
      generalize (first k k : Int) = z at d1 d2
      have n1 : k * 2 + 1 ≠ k * 2 := by omega
      have n2 : k * 2 ≠ k * 2 + 1 := by omega
      have HS : Hid (LkW ((wr.setCell ⟨t, k * 2, none⟩ (.int .i64 (k : Int))).setCell ⟨t, k * 2 + 1, none⟩ (.int .i64 (k : Int))) t m m (first (k + 1)) (first (k + 1))) := by
        have := (HL.out.setA hlt k).setB hlt k
        rwa [first_step] at this
      have HBS : Hid (Below w.heap.size w ((wr.setCell ⟨t, k * 2, none⟩ (.int .i64 (k : Int))).setCell ⟨t, k * 2 + 1, none⟩ (.int .i64 (k : Int)))) :=
        (HB.out.setCell (p := ⟨t, k * 2, none⟩) (Nat.le_of_eq HT.out.symm) _).setCell (p := ⟨t, k * 2 + 1, none⟩) (Nat.le_of_eq HT.out.symm) _
      go_wp2
      exact ⟨⟨k + 1, hlt, by go_num, HS, HBS⟩, by simp [intOf]; omega⟩
    · obtain rfl : k = m := by omega
      clear hlt
      go_wp2
      have hs := HB.out.size
      have hk1 : Below wr.heap.size wr (wr.alloc (.cells #[.slice (some ⟨t, 0, none⟩) k k, .int .i64 0] 105)) := (Below.refl _ _).alloc (Nat.le_refl _) _
      refine bodyPost_ret (v := .tuple #[.pointer (some ⟨wr.heap.size, 0, none⟩), .int .i64 0]) (by simp [results, Try.results31, go_sem]) rfl ⟨⟨wr.heap.size, t, rfl, ⟨k, first (n + 1), first (n + 1), ⟨?_, ?_, h0, h1⟩, ring_new n⟩, hs, Nat.le_of_eq HT.out.symm⟩, HB.out.alloc hs _⟩
      · rw [heap_alloc_new, HMM.out]; rfl
      · have := HL.out.keep (hk1.block t HL.out.lt)
        have e := HMM.out
        subst e
        exact this
end Cn
end Go.Proofs.Ytjnbdmimflhhiaa
