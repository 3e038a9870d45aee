/-
  SpanC. Put together by pack.py.
-/
import Derived.Test.YtlabbmfiecbigaaPkAE
import Derived.Test.YtlabbmfiecbigaaCalm
import Derived.Lib.MinMaxS
import Derived.Deep.RegionHeld3

namespace Go.Proofs.Ytlabbmfiecbigaa
open Go.RowKit
namespace Lx


set_option maxHeartbeats 1000000 in
theorem Empty_any (lo hi : ByteArray) (top : Bool) (w : World) :
    Calls Try.prog 60 #[spanV lo hi top] w fun e w' => e = .returned (.bool (emptyB lo hi top)) ∧ Below w.heap.size w w' := by
  cases top
  · have HR : Hid (emptyB lo hi false = decide (cmpB hi lo ≤ 0)) := Lib.hid (by simp [emptyB])
    go_enter Try.func60, Try.ntmps60
    go_wp2_with (go_at_call 63; refine (Compare_any _ _ _).mono ?_; rintro e w' ⟨rfl, rfl⟩)
    go_ret
    exact ⟨ret_bool (by rw [HR.out]), (Below.refl _ _).alloc (Nat.le_refl _) _⟩
  · have HR : Hid (emptyB lo hi true = false) := Lib.hid (by simp [emptyB])
    go_enter Try.func60, Try.ntmps60
    go_wp2
    go_ret
    exact ⟨ret_bool (by rw [HR.out]), (Below.refl _ _).alloc (Nat.le_refl _) _⟩

set_option maxHeartbeats 1000000 in
theorem All_any (w : World) :
    Calls Try.prog 18 #[] w fun e w' => e = .returned (spanV ⟨#[]⟩ ⟨#[]⟩ true) ∧ Below w.heap.size w w' := by
  go_enter Try.func18, Try.ntmps18
  go_wp2
  exact bodyPost_ret (v := spanV ⟨#[]⟩ ⟨#[]⟩ true) (by simp [results, Try.results18, go_sem]) rfl ⟨rfl, (Below.refl _ _).alloc (Nat.le_refl _) _⟩

theorem list_lt_cmp : ∀ (a b : List UInt8), a < b ↔ Lib.compareBytes a b < 0
  | [], [] => by simp [Lib.compareBytes]
  | [], _ :: _ => by simp [Lib.compareBytes]
  | _ :: _, [] => by simp [Lib.compareBytes]
  | a :: xs, b :: ys => by
    rw [List.cons_lt_cons_iff]
    rcases u8_tri a b with h | rfl | h
    · rw [cmp_cons_lt _ _ h]; simp [h]
    · rw [cmp_cons_eq, ← list_lt_cmp xs ys]; simp
    · rw [cmp_cons_gt _ _ h]
      have h1 := u8_lt_asymm h
      have h2 : a ≠ b := by intro e; subst e; exact u8_lt_irrefl _ h
      simp [h1, h2]
def maxB (a b : ByteArray) : ByteArray := if cmpB a b < 0 then b else a
def minB (a b : ByteArray) : ByteArray := if cmpB a b ≤ 0 then a else b
theorem ba_ext {a b : ByteArray} (h : a.data.toList = b.data.toList) : a = b := by
  cases a; cases b; simpa using h
theorem maxS_eq (a b : ByteArray) : Lib.maxS a b = maxB a b := by
  unfold Lib.maxS maxB
  have := list_lt_cmp a.data.toList b.data.toList
  by_cases h : cmpB a b < 0
  · rw [if_pos h, if_pos (this.2 h)]
  · rw [if_neg h, if_neg (fun k => h (this.1 k))]
theorem minS_eq (a b : ByteArray) : Lib.minS a b = minB a b := by
  unfold Lib.minS minB
  have := list_lt_cmp a.data.toList b.data.toList
  by_cases h : cmpB a b ≤ 0
  · rw [if_pos h, if_pos]
    by_cases h0 : cmpB a b = 0
    · exact .inr (cmp_zero h0)
    · exact .inl (this.2 (by unfold cmpB at *; omega))
  · rw [if_neg h, if_neg]
    rintro (k | k)
    · have := this.1 k; unfold cmpB at h; omega
    · unfold cmpB at h; rw [k, cmp_self] at h; omega
def lowerB (ha : ByteArray) (ta : Bool) (hb : ByteArray) (tb : Bool) : ByteArray :=
  if ta && tb then ⟨#[]⟩ else if ta then hb else if tb then ha else minB ha hb

theorem ret_string {a b : ByteArray} (h : a = b) : Ending.returned (.string a) = .returned (.string b) := by rw [h]

set_option maxHeartbeats 1000000 in
theorem lower_any (la ha : ByteArray) (ta : Bool) (lb hb : ByteArray) (tb : Bool) (w : World) :
    Calls Try.prog 59 #[spanV la ha ta, spanV lb hb tb] w fun e w' => e = .returned (.string (lowerB ha ta hb tb)) ∧ Below w.heap.size w w' := by
  cases ta <;> cases tb
  · have HR : Hid (lowerB ha false hb false = Lib.minS ha hb) := Lib.hid (by simp [lowerB, minS_eq])
    have hmin := fun (w : World) (ts : Array TypeId) (t : TypeId) => Lib.run_min_strs (P := Try.prog) w ts t ha hb
    go_enter Try.func59, Try.ntmps59
    go_wp2
    go_ret
    exact ⟨ret_string (by rw [HR.out]), ((Below.refl _ _).alloc (Nat.le_refl _) _).alloc (by simp) _⟩
  · have HR : Hid (lowerB ha false hb true = ha) := Lib.hid (by simp [lowerB])
    go_enter Try.func59, Try.ntmps59
    go_wp2
    go_ret
    exact ⟨ret_string (by rw [HR.out]), ((Below.refl _ _).alloc (Nat.le_refl _) _).alloc (by simp) _⟩
  · have HR : Hid (lowerB ha true hb false = hb) := Lib.hid (by simp [lowerB])
    go_enter Try.func59, Try.ntmps59
    go_wp2
    go_ret
    exact ⟨ret_string (by rw [HR.out]), ((Below.refl _ _).alloc (Nat.le_refl _) _).alloc (by simp) _⟩
  · have HR : Hid (lowerB ha true hb true = ⟨#[]⟩) := Lib.hid (by simp [lowerB])
    go_enter Try.func59, Try.ntmps59
    go_wp2
    go_ret
    exact ⟨ret_string (by rw [HR.out]), ((Below.refl _ _).alloc (Nat.le_refl _) _).alloc (by simp) _⟩

def meetB (la ha : ByteArray) (ta : Bool) (lb hb : ByteArray) (tb : Bool) : (ByteArray × ByteArray × Bool) × Bool :=
  if emptyB (maxB la lb) (lowerB ha ta hb tb) (ta && tb) then ((⟨#[]⟩, ⟨#[]⟩, false), false) else ((maxB la lb, lowerB ha ta hb tb, ta && tb), true)

def meetV (la ha : ByteArray) (ta : Bool) (lb hb : ByteArray) (tb : Bool) : Value :=
  .tuple #[spanV (meetB la ha ta lb hb tb).1.1 (meetB la ha ta lb hb tb).1.2.1 (meetB la ha ta lb hb tb).1.2.2, .bool (meetB la ha ta lb hb tb).2]

set_option maxHeartbeats 2000000 in
theorem Meet_false_false (la ha : ByteArray) (lb hb : ByteArray) (w : World) :
    Calls Try.prog 44 #[spanV la ha false, spanV lb hb false] w fun e w' => e = .returned (meetV la ha false lb hb false) ∧ Below w.heap.size w w' := by
  have hmax := fun (w : World) (ts : Array TypeId) (t : TypeId) => Lib.run_max_strs (P := Try.prog) w ts t la lb
  have hyes : emptyB (Lib.maxS la lb) (lowerB ha false hb false) false = true → meetV la ha false lb hb false = .tuple #[spanV ⟨#[]⟩ ⟨#[]⟩ false, .bool false] := fun h => by
    rw [maxS_eq] at h; unfold meetV meetB; simp [h]
  have hno : emptyB (Lib.maxS la lb) (lowerB ha false hb false) false = false → meetV la ha false lb hb false = .tuple #[spanV (Lib.maxS la lb) (lowerB ha false hb false) false, .bool true] := fun h => by
    rw [maxS_eq] at *; unfold meetV meetB; simp [h]
  have Hyes := Lib.hid hyes
  have Hno := Lib.hid hno
  clear hyes hno
  go_enter Try.func44, Try.ntmps44
  go_wp2
  generalize hX : ((w.alloc _).alloc _).alloc _ = X
  have hb0 : Below w.heap.size w X := by rw [← hX]; exact (((Below.refl _ _).alloc (Nat.le_refl _) _).alloc (by simp) _).alloc (by simp; omega) _
  have hs0 : w.heap.size + 2 < X.heap.size := by rw [← hX]; simp
  have a0 : X.cell? ⟨w.heap.size, 0, none⟩ = some (.string la) := by rw [← hX]; simp [go_sem]
  have a1 : X.cell? ⟨w.heap.size, 1, none⟩ = some (.string ha) := by rw [← hX]; simp [go_sem]
  have a2 : X.cell? ⟨w.heap.size, 2, none⟩ = some (.bool false) := by rw [← hX]; simp [go_sem]
  have b0 : X.cell? ⟨w.heap.size + 1, 0, none⟩ = some (.string lb) := by rw [← hX]; simp [go_sem]
  have b1 : X.cell? ⟨w.heap.size + 1, 1, none⟩ = some (.string hb) := by rw [← hX]; simp [go_sem]
  have b2 : X.cell? ⟨w.heap.size + 1, 2, none⟩ = some (.bool false) := by rw [← hX]; simp [go_sem]
  have r0 : X.heap[w.heap.size + 2]? = some (.cells #[.string ⟨#[]⟩, .string ⟨#[]⟩, .bool false] 37) := by
    rw [← hX]; show (((w.heap.push _).push _).push _)[w.heap.size + 2]? = _
    rw [Array.getElem?_push, if_pos (by simp)]
  clear hX
  have a0' := cell_regrown a0
  have a1' := cell_regrown a1
  have a2' := cell_regrown a2
  have b0' := cell_regrown b0
  have b1' := cell_regrown b1
  have b2' := cell_regrown b2
  clear a0 a1 a2 b0 b1 b2
  refine Calm.wp_region_laid 15 37 6 (.cells #[.string ⟨#[]⟩, .string ⟨#[]⟩, .bool false] 37) (by kernel_rfl) (by kernel_rfl) rfl (fun w => by kernel_rfl) ?_
  simp only [List.take_succ_cons, List.take_zero, List.drop_succ_cons, List.drop_zero]
  repeat (refine Calm.wpCalm_step (fun K hK => ?_); go_simp; first | (refine hK _ ?_; clear hK K) | (apply Exists.intro; refine ⟨fun _ => ?_, hK _ ?_⟩; (go_at_call 59; exact lower_any _ _ _ _ _ _ _); clear hK K))
  refine Calm.wpCalm_nil ?_
  intro b w1 hb1 hlt hle hblk
  clear a0' a1' a2' b0' b1' b2' hmax
  have hblk' := hb1.block (w.heap.size + 2) hs0
  rw [r0] at hblk'
  have f0 := Calm.cell_of_block hblk 0
  have f1 := Calm.cell_of_block hblk 1
  have f2 := Calm.cell_of_block hblk 2
  have g0 := Calm.free_of_block hblk 0
  have g1 := Calm.free_of_block hblk 1
  have g2 := Calm.free_of_block hblk 2
  have p0 := Calm.cell_of_block hblk' 0
  have p1 := Calm.cell_of_block hblk' 1
  have p2 := Calm.cell_of_block hblk' 2
  have q0 := Calm.free_of_block hblk' 0
  have q1 := Calm.free_of_block hblk' 1
  have q2 := Calm.free_of_block hblk' 2
  clear hblk hblk' r0
  have hbr : b ≠ w.heap.size + 2 := by omega
  go_wp2_with fail
  generalize hW : ((w1.setCell _ _).setCell _ _).setCell _ _ = w2
  have hs2 : w1.heap.size = w2.heap.size := by rw [← hW]; simp
  have hb2 : Below w.heap.size w w2 := by
    rw [← hW]
    exact (((hb0.trans (hb1.mono (by omega))).setCell (by simp; omega) _).setCell (by simp; omega) _).setCell (by simp; omega) _
  have f0' : w2.cell? ⟨b, 0, none⟩ = some (.string (Lib.maxS la lb)) := by rw [← hW]; simp [go_sem, f0]
  have f1' : w2.cell? ⟨b, 1, none⟩ = some (.string (lowerB ha false hb false)) := by rw [← hW]; simp [go_sem, f1]
  have f2' : w2.cell? ⟨b, 2, none⟩ = some (.bool false) := by rw [← hW]; simp [go_sem, f2]
  have p0' : w2.cell? ⟨w.heap.size + 2, 0, none⟩ = some (.string ⟨#[]⟩) := by rw [← hW]; simp [go_sem, p0]
  have p1' : w2.cell? ⟨w.heap.size + 2, 1, none⟩ = some (.string ⟨#[]⟩) := by rw [← hW]; simp [go_sem, p1]
  have p2' : w2.cell? ⟨w.heap.size + 2, 2, none⟩ = some (.bool false) := by rw [← hW]; simp [go_sem, p2]
  have q0' : w2.frozen? ⟨w.heap.size + 2, 0, none⟩ = false := by rw [← hW]; simp [go_sem, q0]
  have q1' : w2.frozen? ⟨w.heap.size + 2, 1, none⟩ = false := by rw [← hW]; simp [go_sem, q1]
  have q2' : w2.frozen? ⟨w.heap.size + 2, 2, none⟩ = false := by rw [← hW]; simp [go_sem, q2]
  clear hW f0 f1 f2 g0 g1 g2 p0 p1 p2 q0 q1 q2
  have hle2 : b < w2.heap.size := by omega
  have hrs : w.heap.size + 2 < w2.heap.size := by have := hb1.size; omega
  refine (Empty_any _ _ _ _).mono ?_
  rintro e w3 ⟨rfl, hb3⟩
  have f0 : w3.cell? ⟨b, 0, none⟩ = _ := (hb3.cell hle2).trans f0'
  have f1 : w3.cell? ⟨b, 1, none⟩ = _ := (hb3.cell hle2).trans f1'
  have f2 : w3.cell? ⟨b, 2, none⟩ = _ := (hb3.cell hle2).trans f2'
  have p0 : w3.cell? ⟨w.heap.size + 2, 0, none⟩ = _ := (hb3.cell hrs).trans p0'
  have p1 : w3.cell? ⟨w.heap.size + 2, 1, none⟩ = _ := (hb3.cell hrs).trans p1'
  have p2 : w3.cell? ⟨w.heap.size + 2, 2, none⟩ = _ := (hb3.cell hrs).trans p2'
  have q0 : w3.frozen? ⟨w.heap.size + 2, 0, none⟩ = _ := (hb3.frozen hrs).trans q0'
  have q1 : w3.frozen? ⟨w.heap.size + 2, 1, none⟩ = _ := (hb3.frozen hrs).trans q1'
  have q2 : w3.frozen? ⟨w.heap.size + 2, 2, none⟩ = _ := (hb3.frozen hrs).trans q2'
  have hb4 : Below w.heap.size w w3 := hb2.trans (hb3.mono (by omega))
  clear f0' f1' f2' p0' p1' p2' q0' q1' q2' hb2 hb3 hb1
  cases he : emptyB (Lib.maxS la lb) (lowerB ha false hb false) false
  · have HR := Lib.hid (Hno.out he)
    go_wp2
    refine bodyPost_ret (v := .tuple #[spanV (Lib.maxS la lb) (lowerB ha false hb false) false, .bool true]) ?_ rfl ⟨by rw [HR.out], ((hb4.setCell (by simp <;> omega) _).setCell (by simp <;> omega) _).setCell (by simp <;> omega) _⟩
    simp [results, Try.results44, go_sem, p0, p1, p2]
  · have HR := Lib.hid (Hyes.out he)
    go_wp2
    refine bodyPost_ret (v := .tuple #[spanV ⟨#[]⟩ ⟨#[]⟩ false, .bool false]) ?_ rfl ⟨by rw [HR.out], ((hb4.setCell (by simp <;> omega) _).setCell (by simp <;> omega) _).setCell (by simp <;> omega) _⟩
    simp [results, Try.results44, go_sem, p0, p1, p2]

set_option maxHeartbeats 2000000 in
theorem Meet_false_true (la ha : ByteArray) (lb hb : ByteArray) (w : World) :
    Calls Try.prog 44 #[spanV la ha false, spanV lb hb true] w fun e w' => e = .returned (meetV la ha false lb hb true) ∧ Below w.heap.size w w' := by
  have hmax := fun (w : World) (ts : Array TypeId) (t : TypeId) => Lib.run_max_strs (P := Try.prog) w ts t la lb
  have hyes : emptyB (Lib.maxS la lb) (lowerB ha false hb true) false = true → meetV la ha false lb hb true = .tuple #[spanV ⟨#[]⟩ ⟨#[]⟩ false, .bool false] := fun h => by
    rw [maxS_eq] at h; unfold meetV meetB; simp [h]
  have hno : emptyB (Lib.maxS la lb) (lowerB ha false hb true) false = false → meetV la ha false lb hb true = .tuple #[spanV (Lib.maxS la lb) (lowerB ha false hb true) false, .bool true] := fun h => by
    rw [maxS_eq] at *; unfold meetV meetB; simp [h]
  have Hyes := Lib.hid hyes
  have Hno := Lib.hid hno
  clear hyes hno
  go_enter Try.func44, Try.ntmps44
  go_wp2
  generalize hX : ((w.alloc _).alloc _).alloc _ = X
  have hb0 : Below w.heap.size w X := by rw [← hX]; exact (((Below.refl _ _).alloc (Nat.le_refl _) _).alloc (by simp) _).alloc (by simp; omega) _
  have hs0 : w.heap.size + 2 < X.heap.size := by rw [← hX]; simp
  have a0 : X.cell? ⟨w.heap.size, 0, none⟩ = some (.string la) := by rw [← hX]; simp [go_sem]
  have a1 : X.cell? ⟨w.heap.size, 1, none⟩ = some (.string ha) := by rw [← hX]; simp [go_sem]
  have a2 : X.cell? ⟨w.heap.size, 2, none⟩ = some (.bool false) := by rw [← hX]; simp [go_sem]
  have b0 : X.cell? ⟨w.heap.size + 1, 0, none⟩ = some (.string lb) := by rw [← hX]; simp [go_sem]
  have b1 : X.cell? ⟨w.heap.size + 1, 1, none⟩ = some (.string hb) := by rw [← hX]; simp [go_sem]
  have b2 : X.cell? ⟨w.heap.size + 1, 2, none⟩ = some (.bool true) := by rw [← hX]; simp [go_sem]
  have r0 : X.heap[w.heap.size + 2]? = some (.cells #[.string ⟨#[]⟩, .string ⟨#[]⟩, .bool false] 37) := by
    rw [← hX]; show (((w.heap.push _).push _).push _)[w.heap.size + 2]? = _
    rw [Array.getElem?_push, if_pos (by simp)]
  clear hX
  have a0' := cell_regrown a0
  have a1' := cell_regrown a1
  have a2' := cell_regrown a2
  have b0' := cell_regrown b0
  have b1' := cell_regrown b1
  have b2' := cell_regrown b2
  clear a0 a1 a2 b0 b1 b2
  refine Calm.wp_region_laid 15 37 6 (.cells #[.string ⟨#[]⟩, .string ⟨#[]⟩, .bool false] 37) (by kernel_rfl) (by kernel_rfl) rfl (fun w => by kernel_rfl) ?_
  simp only [List.take_succ_cons, List.take_zero, List.drop_succ_cons, List.drop_zero]
  repeat (refine Calm.wpCalm_step (fun K hK => ?_); go_simp; first | (refine hK _ ?_; clear hK K) | (apply Exists.intro; refine ⟨fun _ => ?_, hK _ ?_⟩; (go_at_call 59; exact lower_any _ _ _ _ _ _ _); clear hK K))
  refine Calm.wpCalm_nil ?_
  intro b w1 hb1 hlt hle hblk
  clear a0' a1' a2' b0' b1' b2' hmax
  have hblk' := hb1.block (w.heap.size + 2) hs0
  rw [r0] at hblk'
  have f0 := Calm.cell_of_block hblk 0
  have f1 := Calm.cell_of_block hblk 1
  have f2 := Calm.cell_of_block hblk 2
  have g0 := Calm.free_of_block hblk 0
  have g1 := Calm.free_of_block hblk 1
  have g2 := Calm.free_of_block hblk 2
  have p0 := Calm.cell_of_block hblk' 0
  have p1 := Calm.cell_of_block hblk' 1
  have p2 := Calm.cell_of_block hblk' 2
  have q0 := Calm.free_of_block hblk' 0
  have q1 := Calm.free_of_block hblk' 1
  have q2 := Calm.free_of_block hblk' 2
  clear hblk hblk' r0
  have hbr : b ≠ w.heap.size + 2 := by omega
  go_wp2_with fail
  generalize hW : ((w1.setCell _ _).setCell _ _).setCell _ _ = w2
  have hs2 : w1.heap.size = w2.heap.size := by rw [← hW]; simp
  have hb2 : Below w.heap.size w w2 := by
    rw [← hW]
    exact (((hb0.trans (hb1.mono (by omega))).setCell (by simp; omega) _).setCell (by simp; omega) _).setCell (by simp; omega) _
  have f0' : w2.cell? ⟨b, 0, none⟩ = some (.string (Lib.maxS la lb)) := by rw [← hW]; simp [go_sem, f0]
  have f1' : w2.cell? ⟨b, 1, none⟩ = some (.string (lowerB ha false hb true)) := by rw [← hW]; simp [go_sem, f1]
  have f2' : w2.cell? ⟨b, 2, none⟩ = some (.bool false) := by rw [← hW]; simp [go_sem, f2]
  have p0' : w2.cell? ⟨w.heap.size + 2, 0, none⟩ = some (.string ⟨#[]⟩) := by rw [← hW]; simp [go_sem, p0]
  have p1' : w2.cell? ⟨w.heap.size + 2, 1, none⟩ = some (.string ⟨#[]⟩) := by rw [← hW]; simp [go_sem, p1]
  have p2' : w2.cell? ⟨w.heap.size + 2, 2, none⟩ = some (.bool false) := by rw [← hW]; simp [go_sem, p2]
  have q0' : w2.frozen? ⟨w.heap.size + 2, 0, none⟩ = false := by rw [← hW]; simp [go_sem, q0]
  have q1' : w2.frozen? ⟨w.heap.size + 2, 1, none⟩ = false := by rw [← hW]; simp [go_sem, q1]
  have q2' : w2.frozen? ⟨w.heap.size + 2, 2, none⟩ = false := by rw [← hW]; simp [go_sem, q2]
  clear hW f0 f1 f2 g0 g1 g2 p0 p1 p2 q0 q1 q2
  have hle2 : b < w2.heap.size := by omega
  have hrs : w.heap.size + 2 < w2.heap.size := by have := hb1.size; omega
  refine (Empty_any _ _ _ _).mono ?_
  rintro e w3 ⟨rfl, hb3⟩
  have f0 : w3.cell? ⟨b, 0, none⟩ = _ := (hb3.cell hle2).trans f0'
  have f1 : w3.cell? ⟨b, 1, none⟩ = _ := (hb3.cell hle2).trans f1'
  have f2 : w3.cell? ⟨b, 2, none⟩ = _ := (hb3.cell hle2).trans f2'
  have p0 : w3.cell? ⟨w.heap.size + 2, 0, none⟩ = _ := (hb3.cell hrs).trans p0'
  have p1 : w3.cell? ⟨w.heap.size + 2, 1, none⟩ = _ := (hb3.cell hrs).trans p1'
  have p2 : w3.cell? ⟨w.heap.size + 2, 2, none⟩ = _ := (hb3.cell hrs).trans p2'
  have q0 : w3.frozen? ⟨w.heap.size + 2, 0, none⟩ = _ := (hb3.frozen hrs).trans q0'
  have q1 : w3.frozen? ⟨w.heap.size + 2, 1, none⟩ = _ := (hb3.frozen hrs).trans q1'
  have q2 : w3.frozen? ⟨w.heap.size + 2, 2, none⟩ = _ := (hb3.frozen hrs).trans q2'
  have hb4 : Below w.heap.size w w3 := hb2.trans (hb3.mono (by omega))
  clear f0' f1' f2' p0' p1' p2' q0' q1' q2' hb2 hb3 hb1
  cases he : emptyB (Lib.maxS la lb) (lowerB ha false hb true) false
  · have HR := Lib.hid (Hno.out he)
    go_wp2
    refine bodyPost_ret (v := .tuple #[spanV (Lib.maxS la lb) (lowerB ha false hb true) false, .bool true]) ?_ rfl ⟨by rw [HR.out], ((hb4.setCell (by simp <;> omega) _).setCell (by simp <;> omega) _).setCell (by simp <;> omega) _⟩
    simp [results, Try.results44, go_sem, p0, p1, p2]
  · have HR := Lib.hid (Hyes.out he)
    go_wp2
    refine bodyPost_ret (v := .tuple #[spanV ⟨#[]⟩ ⟨#[]⟩ false, .bool false]) ?_ rfl ⟨by rw [HR.out], ((hb4.setCell (by simp <;> omega) _).setCell (by simp <;> omega) _).setCell (by simp <;> omega) _⟩
    simp [results, Try.results44, go_sem, p0, p1, p2]

set_option maxHeartbeats 2000000 in
theorem Meet_true_false (la ha : ByteArray) (lb hb : ByteArray) (w : World) :
    Calls Try.prog 44 #[spanV la ha true, spanV lb hb false] w fun e w' => e = .returned (meetV la ha true lb hb false) ∧ Below w.heap.size w w' := by
  have hmax := fun (w : World) (ts : Array TypeId) (t : TypeId) => Lib.run_max_strs (P := Try.prog) w ts t la lb
  have hyes : emptyB (Lib.maxS la lb) (lowerB ha true hb false) false = true → meetV la ha true lb hb false = .tuple #[spanV ⟨#[]⟩ ⟨#[]⟩ false, .bool false] := fun h => by
    rw [maxS_eq] at h; unfold meetV meetB; simp [h]
  have hno : emptyB (Lib.maxS la lb) (lowerB ha true hb false) false = false → meetV la ha true lb hb false = .tuple #[spanV (Lib.maxS la lb) (lowerB ha true hb false) false, .bool true] := fun h => by
    rw [maxS_eq] at *; unfold meetV meetB; simp [h]
  have Hyes := Lib.hid hyes
  have Hno := Lib.hid hno
  clear hyes hno
  go_enter Try.func44, Try.ntmps44
  go_wp2
  generalize hX : ((w.alloc _).alloc _).alloc _ = X
  have hb0 : Below w.heap.size w X := by rw [← hX]; exact (((Below.refl _ _).alloc (Nat.le_refl _) _).alloc (by simp) _).alloc (by simp; omega) _
  have hs0 : w.heap.size + 2 < X.heap.size := by rw [← hX]; simp
  have a0 : X.cell? ⟨w.heap.size, 0, none⟩ = some (.string la) := by rw [← hX]; simp [go_sem]
  have a1 : X.cell? ⟨w.heap.size, 1, none⟩ = some (.string ha) := by rw [← hX]; simp [go_sem]
  have a2 : X.cell? ⟨w.heap.size, 2, none⟩ = some (.bool true) := by rw [← hX]; simp [go_sem]
  have b0 : X.cell? ⟨w.heap.size + 1, 0, none⟩ = some (.string lb) := by rw [← hX]; simp [go_sem]
  have b1 : X.cell? ⟨w.heap.size + 1, 1, none⟩ = some (.string hb) := by rw [← hX]; simp [go_sem]
  have b2 : X.cell? ⟨w.heap.size + 1, 2, none⟩ = some (.bool false) := by rw [← hX]; simp [go_sem]
  have r0 : X.heap[w.heap.size + 2]? = some (.cells #[.string ⟨#[]⟩, .string ⟨#[]⟩, .bool false] 37) := by
    rw [← hX]; show (((w.heap.push _).push _).push _)[w.heap.size + 2]? = _
    rw [Array.getElem?_push, if_pos (by simp)]
  clear hX
  have a0' := cell_regrown a0
  have a1' := cell_regrown a1
  have a2' := cell_regrown a2
  have b0' := cell_regrown b0
  have b1' := cell_regrown b1
  have b2' := cell_regrown b2
  clear a0 a1 a2 b0 b1 b2
  refine Calm.wp_region_laid 15 37 6 (.cells #[.string ⟨#[]⟩, .string ⟨#[]⟩, .bool false] 37) (by kernel_rfl) (by kernel_rfl) rfl (fun w => by kernel_rfl) ?_
  simp only [List.take_succ_cons, List.take_zero, List.drop_succ_cons, List.drop_zero]
  repeat (refine Calm.wpCalm_step (fun K hK => ?_); go_simp; first | (refine hK _ ?_; clear hK K) | (apply Exists.intro; refine ⟨fun _ => ?_, hK _ ?_⟩; (go_at_call 59; exact lower_any _ _ _ _ _ _ _); clear hK K))
  refine Calm.wpCalm_nil ?_
  intro b w1 hb1 hlt hle hblk
  clear a0' a1' a2' b0' b1' b2' hmax
  have hblk' := hb1.block (w.heap.size + 2) hs0
  rw [r0] at hblk'
  have f0 := Calm.cell_of_block hblk 0
  have f1 := Calm.cell_of_block hblk 1
  have f2 := Calm.cell_of_block hblk 2
  have g0 := Calm.free_of_block hblk 0
  have g1 := Calm.free_of_block hblk 1
  have g2 := Calm.free_of_block hblk 2
  have p0 := Calm.cell_of_block hblk' 0
  have p1 := Calm.cell_of_block hblk' 1
  have p2 := Calm.cell_of_block hblk' 2
  have q0 := Calm.free_of_block hblk' 0
  have q1 := Calm.free_of_block hblk' 1
  have q2 := Calm.free_of_block hblk' 2
  clear hblk hblk' r0
  have hbr : b ≠ w.heap.size + 2 := by omega
  go_wp2_with fail
  generalize hW : ((w1.setCell _ _).setCell _ _).setCell _ _ = w2
  have hs2 : w1.heap.size = w2.heap.size := by rw [← hW]; simp
  have hb2 : Below w.heap.size w w2 := by
    rw [← hW]
    exact (((hb0.trans (hb1.mono (by omega))).setCell (by simp; omega) _).setCell (by simp; omega) _).setCell (by simp; omega) _
  have f0' : w2.cell? ⟨b, 0, none⟩ = some (.string (Lib.maxS la lb)) := by rw [← hW]; simp [go_sem, f0]
  have f1' : w2.cell? ⟨b, 1, none⟩ = some (.string (lowerB ha true hb false)) := by rw [← hW]; simp [go_sem, f1]
  have f2' : w2.cell? ⟨b, 2, none⟩ = some (.bool false) := by rw [← hW]; simp [go_sem, f2]
  have p0' : w2.cell? ⟨w.heap.size + 2, 0, none⟩ = some (.string ⟨#[]⟩) := by rw [← hW]; simp [go_sem, p0]
  have p1' : w2.cell? ⟨w.heap.size + 2, 1, none⟩ = some (.string ⟨#[]⟩) := by rw [← hW]; simp [go_sem, p1]
  have p2' : w2.cell? ⟨w.heap.size + 2, 2, none⟩ = some (.bool false) := by rw [← hW]; simp [go_sem, p2]
  have q0' : w2.frozen? ⟨w.heap.size + 2, 0, none⟩ = false := by rw [← hW]; simp [go_sem, q0]
  have q1' : w2.frozen? ⟨w.heap.size + 2, 1, none⟩ = false := by rw [← hW]; simp [go_sem, q1]
  have q2' : w2.frozen? ⟨w.heap.size + 2, 2, none⟩ = false := by rw [← hW]; simp [go_sem, q2]
  clear hW f0 f1 f2 g0 g1 g2 p0 p1 p2 q0 q1 q2
  have hle2 : b < w2.heap.size := by omega
  have hrs : w.heap.size + 2 < w2.heap.size := by have := hb1.size; omega
  refine (Empty_any _ _ _ _).mono ?_
  rintro e w3 ⟨rfl, hb3⟩
  have f0 : w3.cell? ⟨b, 0, none⟩ = _ := (hb3.cell hle2).trans f0'
  have f1 : w3.cell? ⟨b, 1, none⟩ = _ := (hb3.cell hle2).trans f1'
  have f2 : w3.cell? ⟨b, 2, none⟩ = _ := (hb3.cell hle2).trans f2'
  have p0 : w3.cell? ⟨w.heap.size + 2, 0, none⟩ = _ := (hb3.cell hrs).trans p0'
  have p1 : w3.cell? ⟨w.heap.size + 2, 1, none⟩ = _ := (hb3.cell hrs).trans p1'
  have p2 : w3.cell? ⟨w.heap.size + 2, 2, none⟩ = _ := (hb3.cell hrs).trans p2'
  have q0 : w3.frozen? ⟨w.heap.size + 2, 0, none⟩ = _ := (hb3.frozen hrs).trans q0'
  have q1 : w3.frozen? ⟨w.heap.size + 2, 1, none⟩ = _ := (hb3.frozen hrs).trans q1'
  have q2 : w3.frozen? ⟨w.heap.size + 2, 2, none⟩ = _ := (hb3.frozen hrs).trans q2'
  have hb4 : Below w.heap.size w w3 := hb2.trans (hb3.mono (by omega))
  clear f0' f1' f2' p0' p1' p2' q0' q1' q2' hb2 hb3 hb1
  cases he : emptyB (Lib.maxS la lb) (lowerB ha true hb false) false
  · have HR := Lib.hid (Hno.out he)
    go_wp2
    refine bodyPost_ret (v := .tuple #[spanV (Lib.maxS la lb) (lowerB ha true hb false) false, .bool true]) ?_ rfl ⟨by rw [HR.out], ((hb4.setCell (by simp <;> omega) _).setCell (by simp <;> omega) _).setCell (by simp <;> omega) _⟩
    simp [results, Try.results44, go_sem, p0, p1, p2]
  · have HR := Lib.hid (Hyes.out he)
    go_wp2
    refine bodyPost_ret (v := .tuple #[spanV ⟨#[]⟩ ⟨#[]⟩ false, .bool false]) ?_ rfl ⟨by rw [HR.out], ((hb4.setCell (by simp <;> omega) _).setCell (by simp <;> omega) _).setCell (by simp <;> omega) _⟩
    simp [results, Try.results44, go_sem, p0, p1, p2]

set_option maxHeartbeats 2000000 in
theorem Meet_true_true (la ha : ByteArray) (lb hb : ByteArray) (w : World) :
    Calls Try.prog 44 #[spanV la ha true, spanV lb hb true] w fun e w' => e = .returned (meetV la ha true lb hb true) ∧ Below w.heap.size w w' := by
  have hmax := fun (w : World) (ts : Array TypeId) (t : TypeId) => Lib.run_max_strs (P := Try.prog) w ts t la lb
  have hyes : emptyB (Lib.maxS la lb) (lowerB ha true hb true) true = true → meetV la ha true lb hb true = .tuple #[spanV ⟨#[]⟩ ⟨#[]⟩ false, .bool false] := fun h => by
    rw [maxS_eq] at h; unfold meetV meetB; simp [h]
  have hno : emptyB (Lib.maxS la lb) (lowerB ha true hb true) true = false → meetV la ha true lb hb true = .tuple #[spanV (Lib.maxS la lb) (lowerB ha true hb true) true, .bool true] := fun h => by
    rw [maxS_eq] at *; unfold meetV meetB; simp [h]
  have Hyes := Lib.hid hyes
  have Hno := Lib.hid hno
  clear hyes hno
  go_enter Try.func44, Try.ntmps44
  go_wp2
  generalize hX : ((w.alloc _).alloc _).alloc _ = X
  have hb0 : Below w.heap.size w X := by rw [← hX]; exact (((Below.refl _ _).alloc (Nat.le_refl _) _).alloc (by simp) _).alloc (by simp; omega) _
  have hs0 : w.heap.size + 2 < X.heap.size := by rw [← hX]; simp
  have a0 : X.cell? ⟨w.heap.size, 0, none⟩ = some (.string la) := by rw [← hX]; simp [go_sem]
  have a1 : X.cell? ⟨w.heap.size, 1, none⟩ = some (.string ha) := by rw [← hX]; simp [go_sem]
  have a2 : X.cell? ⟨w.heap.size, 2, none⟩ = some (.bool true) := by rw [← hX]; simp [go_sem]
  have b0 : X.cell? ⟨w.heap.size + 1, 0, none⟩ = some (.string lb) := by rw [← hX]; simp [go_sem]
  have b1 : X.cell? ⟨w.heap.size + 1, 1, none⟩ = some (.string hb) := by rw [← hX]; simp [go_sem]
  have b2 : X.cell? ⟨w.heap.size + 1, 2, none⟩ = some (.bool true) := by rw [← hX]; simp [go_sem]
  have r0 : X.heap[w.heap.size + 2]? = some (.cells #[.string ⟨#[]⟩, .string ⟨#[]⟩, .bool false] 37) := by
    rw [← hX]; show (((w.heap.push _).push _).push _)[w.heap.size + 2]? = _
    rw [Array.getElem?_push, if_pos (by simp)]
  clear hX
  have a0' := cell_regrown a0
  have a1' := cell_regrown a1
  have a2' := cell_regrown a2
  have b0' := cell_regrown b0
  have b1' := cell_regrown b1
  have b2' := cell_regrown b2
  clear a0 a1 a2 b0 b1 b2
  refine Calm.wp_region_laid 15 37 6 (.cells #[.string ⟨#[]⟩, .string ⟨#[]⟩, .bool false] 37) (by kernel_rfl) (by kernel_rfl) rfl (fun w => by kernel_rfl) ?_
  simp only [List.take_succ_cons, List.take_zero, List.drop_succ_cons, List.drop_zero]
  repeat (refine Calm.wpCalm_step (fun K hK => ?_); go_simp; first | (refine hK _ ?_; clear hK K) | (apply Exists.intro; refine ⟨fun _ => ?_, hK _ ?_⟩; (go_at_call 59; exact lower_any _ _ _ _ _ _ _); clear hK K))
  refine Calm.wpCalm_nil ?_
  intro b w1 hb1 hlt hle hblk
  clear a0' a1' a2' b0' b1' b2' hmax
  have hblk' := hb1.block (w.heap.size + 2) hs0
  rw [r0] at hblk'
  have f0 := Calm.cell_of_block hblk 0
  have f1 := Calm.cell_of_block hblk 1
  have f2 := Calm.cell_of_block hblk 2
  have g0 := Calm.free_of_block hblk 0
  have g1 := Calm.free_of_block hblk 1
  have g2 := Calm.free_of_block hblk 2
  have p0 := Calm.cell_of_block hblk' 0
  have p1 := Calm.cell_of_block hblk' 1
  have p2 := Calm.cell_of_block hblk' 2
  have q0 := Calm.free_of_block hblk' 0
  have q1 := Calm.free_of_block hblk' 1
  have q2 := Calm.free_of_block hblk' 2
  clear hblk hblk' r0
  have hbr : b ≠ w.heap.size + 2 := by omega
  go_wp2_with fail
  generalize hW : ((w1.setCell _ _).setCell _ _).setCell _ _ = w2
  have hs2 : w1.heap.size = w2.heap.size := by rw [← hW]; simp
  have hb2 : Below w.heap.size w w2 := by
    rw [← hW]
    exact (((hb0.trans (hb1.mono (by omega))).setCell (by simp; omega) _).setCell (by simp; omega) _).setCell (by simp; omega) _
  have f0' : w2.cell? ⟨b, 0, none⟩ = some (.string (Lib.maxS la lb)) := by rw [← hW]; simp [go_sem, f0]
  have f1' : w2.cell? ⟨b, 1, none⟩ = some (.string (lowerB ha true hb true)) := by rw [← hW]; simp [go_sem, f1]
  have f2' : w2.cell? ⟨b, 2, none⟩ = some (.bool true) := by rw [← hW]; simp [go_sem, f2]
  have p0' : w2.cell? ⟨w.heap.size + 2, 0, none⟩ = some (.string ⟨#[]⟩) := by rw [← hW]; simp [go_sem, p0]
  have p1' : w2.cell? ⟨w.heap.size + 2, 1, none⟩ = some (.string ⟨#[]⟩) := by rw [← hW]; simp [go_sem, p1]
  have p2' : w2.cell? ⟨w.heap.size + 2, 2, none⟩ = some (.bool false) := by rw [← hW]; simp [go_sem, p2]
  have q0' : w2.frozen? ⟨w.heap.size + 2, 0, none⟩ = false := by rw [← hW]; simp [go_sem, q0]
  have q1' : w2.frozen? ⟨w.heap.size + 2, 1, none⟩ = false := by rw [← hW]; simp [go_sem, q1]
  have q2' : w2.frozen? ⟨w.heap.size + 2, 2, none⟩ = false := by rw [← hW]; simp [go_sem, q2]
  clear hW f0 f1 f2 g0 g1 g2 p0 p1 p2 q0 q1 q2
  have hle2 : b < w2.heap.size := by omega
  have hrs : w.heap.size + 2 < w2.heap.size := by have := hb1.size; omega
  refine (Empty_any _ _ _ _).mono ?_
  rintro e w3 ⟨rfl, hb3⟩
  have f0 : w3.cell? ⟨b, 0, none⟩ = _ := (hb3.cell hle2).trans f0'
  have f1 : w3.cell? ⟨b, 1, none⟩ = _ := (hb3.cell hle2).trans f1'
  have f2 : w3.cell? ⟨b, 2, none⟩ = _ := (hb3.cell hle2).trans f2'
  have p0 : w3.cell? ⟨w.heap.size + 2, 0, none⟩ = _ := (hb3.cell hrs).trans p0'
  have p1 : w3.cell? ⟨w.heap.size + 2, 1, none⟩ = _ := (hb3.cell hrs).trans p1'
  have p2 : w3.cell? ⟨w.heap.size + 2, 2, none⟩ = _ := (hb3.cell hrs).trans p2'
  have q0 : w3.frozen? ⟨w.heap.size + 2, 0, none⟩ = _ := (hb3.frozen hrs).trans q0'
  have q1 : w3.frozen? ⟨w.heap.size + 2, 1, none⟩ = _ := (hb3.frozen hrs).trans q1'
  have q2 : w3.frozen? ⟨w.heap.size + 2, 2, none⟩ = _ := (hb3.frozen hrs).trans q2'
  have hb4 : Below w.heap.size w w3 := hb2.trans (hb3.mono (by omega))
  clear f0' f1' f2' p0' p1' p2' q0' q1' q2' hb2 hb3 hb1
  cases he : emptyB (Lib.maxS la lb) (lowerB ha true hb true) true
  · have HR := Lib.hid (Hno.out he)
    go_wp2
    refine bodyPost_ret (v := .tuple #[spanV (Lib.maxS la lb) (lowerB ha true hb true) true, .bool true]) ?_ rfl ⟨by rw [HR.out], ((hb4.setCell (by simp <;> omega) _).setCell (by simp <;> omega) _).setCell (by simp <;> omega) _⟩
    simp [results, Try.results44, go_sem, p0, p1, p2]
  · have HR := Lib.hid (Hyes.out he)
    go_wp2
    refine bodyPost_ret (v := .tuple #[spanV ⟨#[]⟩ ⟨#[]⟩ false, .bool false]) ?_ rfl ⟨by rw [HR.out], ((hb4.setCell (by simp <;> omega) _).setCell (by simp <;> omega) _).setCell (by simp <;> omega) _⟩
    simp [results, Try.results44, go_sem, p0, p1, p2]

theorem Meet_any (la ha : ByteArray) (ta : Bool) (lb hb : ByteArray) (tb : Bool) (w : World) :
    Calls Try.prog 44 #[spanV la ha ta, spanV lb hb tb] w fun e w' => e = .returned (meetV la ha ta lb hb tb) ∧ Below w.heap.size w w' := by
  cases ta <;> cases tb
  · exact Meet_false_false la ha lb hb w
  · exact Meet_false_true la ha lb hb w
  · exact Meet_true_false la ha lb hb w
  · exact Meet_true_true la ha lb hb w
end Lx
end Go.Proofs.Ytlabbmfiecbigaa
