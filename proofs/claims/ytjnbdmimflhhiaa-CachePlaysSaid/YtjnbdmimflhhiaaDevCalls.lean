/-
  Contracts of layer dev: isSize, New, Blocks, Bytes, Stats, place.
-/
import Derived.Test.YtjnbdmimflhhiaaChecked
import Derived.Test.YtjnbdmimflhhiaaDevPlain
import Derived.WalkKit
import Derived.WalkLawsBesides
import Derived.KernelRfl
import Derived.Lib.Hide
import Derived.WalkSpells
import Derived.StillTailTactics
import Derived.Deep.DeepCutAuto
import Derived.Deep.CutBlock
namespace Go.Proofs.Ytjnbdmimflhhiaa
open Go.RowKit
namespace Dv
open Mem

theorem slinfo : (Try.prog.info? 42).map (fun i => (i.zero, i.size, i.bytes)) = some (some (.slice none 0 0), 1, 24) := by kernel_rfl
theorem u8info : (Try.prog.info? 5).map (fun i => (i.zero, i.size, i.bytes)) = some (some (.int .u8 0), 1, 1) := by kernel_rfl
theorem u8size : (Try.prog.info? 5).map (·.size) = some 1 := by kernel_rfl

theorem isSize_yes (m : Int) (w : World) (h0 : 1 ≤ m) (h1 : m ≤ 65536) : Calls Try.prog 29 #[.int .i64 m] w fun e w' => e = .returned (.bool true) ∧ w = w' := by
  go_enter Try.func29, Try.ntmps29
  go_wp2
  go_ret
  exact ⟨rfl, rfl⟩
theorem isSize_no (m : Int) (w : World) (h : ¬ (1 ≤ m ∧ m ≤ 65536)) : Calls Try.prog 29 #[.int .i64 m] w fun e w' => e = .returned (.bool false) ∧ w = w' := by
  by_cases h0 : 1 ≤ m
  · have h1 : 65536 < m := by omega
    have h2 : decide (m ≤ 65536) = false := by simp; omega
    clear h
    go_enter Try.func29, Try.ntmps29
    go_wp2
    go_ret
    exact ⟨rfl, rfl⟩
  · have h1 : m < 1 := by omega
    have h2 : decide (1 ≤ m) = false := by simp; omega
    clear h h0
    go_enter Try.func29, Try.ntmps29
    go_wp2
    go_ret
    exact ⟨rfl, rfl⟩

theorem New_out (n m : Int) (w : World) (h : ¬ ((5 ≤ n ∧ n ≤ 65536) ∧ 1 ≤ m ∧ m ≤ 65536)) : Calls Try.prog 6 #[.int .i64 n, .int .i64 m] w fun e w' => e = .returned (.tuple #[.pointer none, .int .i64 2]) ∧ w = w' := by
  by_cases h0 : n < 5
  · clear h
    go_enter Try.func6, Try.ntmps6
    go_wp2
    exact bodyPost_ret (v := .tuple #[.pointer none, .int .i64 2]) (by simp [results, Try.results6, go_sem]) rfl ⟨rfl, rfl⟩
  · by_cases h1 : 65536 < n
    · clear h
      go_enter Try.func6, Try.ntmps6
      go_wp2
      exact bodyPost_ret (v := .tuple #[.pointer none, .int .i64 2]) (by simp [results, Try.results6, go_sem]) rfl ⟨rfl, rfl⟩
    · have cS := Lib.hid (isSize_no m w (by omega))
      have h2 : 5 ≤ n := by omega
      have h3 : n ≤ 65536 := by omega
      clear h h0 h1
      go_enter Try.func6, Try.ntmps6
      go_wp2_with (go_at_call 29; refine cS.out.mono ?_; rintro e w' ⟨rfl, rfl⟩)
      exact bodyPost_ret (v := .tuple #[.pointer none, .int .i64 2]) (by simp [results, Try.results6, go_sem]) rfl ⟨rfl, rfl⟩

theorem none_at (n i : Nat) (x : Nat × Nat × Nat) : (List.replicate n (none : Bk))[i]? ≠ some (some x) := fun h => by
  rw [List.getElem?_replicate] at h
  split at h <;> simp at h
/-- a new device's parts -/
theorem dev_new {w2 : World} {g b n m : Nat} (hb : Ow 42 w2 b n (List.replicate n (.slice none 0 0))) (hg : w2.heap[g]? = some (.cells #[.int .i64 (m : Int), .slice (some ⟨b, 0, none⟩) n n, .int .u64 0, .int .u64 0] 72 (0, 0))) :
    DevW w2 g b n m (List.replicate n none) (List.replicate n (List.replicate m 0)) 0 0 := by
  refine ⟨by simpa using hg, ?_, by simp, fun l hl => ?_, fun i hi => ?_, fun i q o k hi => absurd hi (none_at n i _), fun i j q o k o' k' _ hi => absurd hi (none_at n i _)⟩
  · rw [List.map_replicate]; exact hb
  · rw [List.eq_of_mem_replicate hl]; simp
  · rw [List.getElem?_replicate] at hi ⊢
    split at hi
    · rename_i h; rw [if_pos h]
    · cases hi
def Newd (w w' : World) (n m : Nat) (e : Ending) : Prop := ∃ g b, e = .returned (.tuple #[.pointer (some ⟨g, 0, none⟩), .int .i64 0]) ∧ DevW w' g b n m (List.replicate n none) (List.replicate n (List.replicate m 0)) 0 0 ∧ w.heap.size ≤ g ∧ w.heap.size ≤ b
set_option maxHeartbeats 1000000 in
theorem New_w (n m : Nat) (w : World) (n1 : 5 ≤ n) (n2 : n ≤ 65536) (m1 : 1 ≤ m) (m2 : m ≤ 65536) : Calls Try.prog 6 #[.int .i64 (n : Int), .int .i64 (m : Int)] w fun e w' => Newd w w' n m e ∧ Below w.heap.size w w' := by
  have hmk := fun w => run_make_at (P := Try.prog) Try.underlying70 slinfo rfl (by omega) n (by omega) w
  have cS := fun w => Lib.hid (isSize_yes m w (by omega) (by omega))
  have HM : Hid (n ≤ 1048576) := by unfold Hid; omega
  go_enter Try.func6, Try.ntmps6
  go_wp2_with (go_at_call 29; refine (cS _).out.mono ?_; rintro e w' ⟨rfl, rfl⟩)
  have hw0 : Ow 42 (w.alloc (.cells (Array.replicate n (.slice none 0 0)) 42)) w.heap.size n (List.replicate n (.slice none 0 0)) := by
    have := ow_made 42 w (.slice none 0 0) n HM.out
    simpa using this
  have hb1 : Below w.heap.size w (w.alloc (.cells (Array.replicate n (.slice none 0 0)) 42)) := (Below.refl _ _).alloc (Nat.le_refl _) _
  have hs1 : (w.alloc (.cells (Array.replicate n (.slice none 0 0)) 42)).heap.size = w.heap.size + 1 := by simp
  generalize w.alloc (.cells (Array.replicate n (.slice none 0 0)) 42) = w1 at *
  refine bodyPost_ret (v := .tuple #[.pointer (some ⟨w.heap.size + 1, 0, none⟩), .int .i64 0]) (by simp [results, Try.results6, go_sem]) rfl ⟨?_, hb1.alloc hb1.size _⟩
  exact ⟨w.heap.size + 1, w.heap.size, rfl, dev_new (hw0.kept ((Below.refl _ _).alloc (Nat.le_refl _) (.cells #[.int .i64 (m : Int), .slice (some ⟨w.heap.size, 0, none⟩) n n, .int .u64 0, .int .u64 0] 72))) (by rw [← hs1, heap_alloc_new]), by omega, Nat.le_refl _⟩
/-- a device that a call made -/
def Made (w w' : World) (m : Nat) (ls : List (List UInt8)) (r s : Nat) (e : Ending) : Prop := ∃ g S, e = .returned (.tuple #[.pointer (some ⟨g, 0, none⟩), .int .i64 0]) ∧ Dev w' S g m ls r s ∧ ∀ k, k ∈ S → w.heap.size ≤ k
theorem New_in (n m : Nat) (w : World) (n1 : 5 ≤ n) (n2 : n ≤ 65536) (m1 : 1 ≤ m) (m2 : m ≤ 65536) : Calls Try.prog 6 #[.int .i64 (n : Int), .int .i64 (m : Int)] w fun e w' => Made w w' m (List.replicate n (List.replicate m 0)) 0 0 e ∧ Below w.heap.size w w' :=
  (New_w n m w n1 n2 m1 m2).mono fun e w' ⟨⟨g, b, he, hd, hg, hb⟩, hbl⟩ => ⟨⟨g, foot g b (List.replicate n none), he, ⟨⟨b, n, _, hd, fun k hk => hk⟩, m1, m2, by simpa using n1, by simpa using n2, hd.lt⟩, fun k hk => by
    rcases of_foot hk with rfl | rfl | ⟨i, o, k', hi⟩
    · exact hg
    · exact hb
    · exact absurd hi (none_at n i _)⟩, hbl⟩

section
variable {w : World} {S : List Nat} {g m : Nat} {ls : List (List UInt8)} {r s : Nat}
theorem Blocks_any (h : Dev w S g m ls r s) : Calls Try.prog 30 #[.pointer (some ⟨g, 0, none⟩)] w fun e w' => e = .returned (.int .i64 (ls.length : Int)) ∧ w = w' := by
  obtain ⟨b, c, h0, h1, h2, h3⟩ := h.cells
  clear h h0 h2 h3
  go_enter Try.func30, Try.ntmps30
  go_wp2
  go_ret
  exact ⟨rfl, rfl⟩
theorem Bytes_any (h : Dev w S g m ls r s) : Calls Try.prog 48 #[.pointer (some ⟨g, 0, none⟩)] w fun e w' => e = .returned (.int .i64 (m : Int)) ∧ w = w' := by
  obtain ⟨b, c, h0, h1, h2, h3⟩ := h.cells
  clear h h1 h2 h3
  go_enter Try.func48, Try.ntmps48
  go_wp2
  go_ret
  exact ⟨rfl, rfl⟩
theorem Stats_any (h : Dev w S g m ls r s) : Calls Try.prog 14 #[.pointer (some ⟨g, 0, none⟩)] w fun e w' => e = .returned (.agg #[.int .u64 (r : Int), .int .u64 (s : Int)]) ∧ Below w.heap.size w w' := by
  obtain ⟨b, c, h0, h1, h2, h3⟩ := h.cells
  have hg : g < w.heap.size := Flow.lt_of_cell h2
  clear h h0 h1
  go_enter Try.func14, Try.ntmps14
  go_wp2
  refine bodyPost_ret (v := .agg #[.int .u64 (r : Int), .int .u64 (s : Int)]) (by simp [results, Try.results14, go_sem]) rfl ⟨rfl, ?_⟩
  exact (Below.refl _ _).alloc (Nat.le_refl _) _
theorem place_in (h : Dev w S g m ls r s) (i : Nat) (hi : i < ls.length) : Calls Try.prog 91 #[.pointer (some ⟨g, 0, none⟩), .int .u32 (i : Int)] w fun e w' => e = .returned (.int .i64 0) ∧ w = w' := by
  have cB := Lib.hid (Blocks_any h)
  have n1 := h.n1
  have n2 := h.n2
  obtain ⟨n, hn⟩ : ∃ n, n = ls.length := ⟨_, rfl⟩
  rw [← hn] at cB hi n1 n2
  have hn0 : ((n : Int) == 0) = false := by simp; omega
  clear h hn
  go_enter Try.func91, Try.ntmps91
  go_wp2_with (go_at_call 30; refine cB.out.mono ?_; rintro e w' ⟨rfl, rfl⟩)
  go_ret
  exact ⟨rfl, rfl⟩
theorem place_out (h : Dev w S g m ls r s) (i : Nat) (hi : ls.length ≤ i) : Calls Try.prog 91 #[.pointer (some ⟨g, 0, none⟩), .int .u32 (i : Int)] w fun e w' => e = .returned (.int .i64 4) ∧ w = w' := by
  have cB := Lib.hid (Blocks_any h)
  have n1 := h.n1
  have n2 := h.n2
  obtain ⟨n, hn⟩ : ∃ n, n = ls.length := ⟨_, rfl⟩
  rw [← hn] at cB hi n1 n2
  have hn0 : ((n : Int) == 0) = false := by simp; omega
  clear h hn
  go_enter Try.func91, Try.ntmps91
  go_wp2_with (go_at_call 30; refine cB.out.mono ?_; rintro e w' ⟨rfl, rfl⟩)
  go_ret
  exact ⟨rfl, rfl⟩
end
end Dv
end Go.Proofs.Ytjnbdmimflhhiaa
