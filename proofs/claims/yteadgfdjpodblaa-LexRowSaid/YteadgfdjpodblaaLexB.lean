/-
  The law LexRow, walked.
-/
import Derived.Test.YteadgfdjpodblaaLexLaw
namespace Go.Proofs.Yteadgfdjpodblaa
open Go.RowKit
namespace Lx
theorem Compare_is {a b : ByteArray} {x : Int} (h : cmpB a b = x) (w : World) :
    Calls Try.prog 11 #[.string a, .string b] w fun e w' => e = .returned (.int .i64 x) ∧ w = w' := by
  subst h; exact Compare_any a b w
/-- one law for the three calls at the law's head, whatever they tell -/
theorem Cut_lt {a b : ByteArray} (h : cmpB a b < 0) (ha : a.size ≤ maxLen) (hb : b.size ≤ maxLen) : ∃ s : ByteArray, cmpB a s < 0 ∧ cmpB s b ≤ 0 ∧ s.size ≤ b.size ∧
    ∀ w : World, Calls Try.prog 9 #[.string a, .string b] w fun e w' => e = .returned (.tuple #[.string s, .bool true]) ∧ ∃ n, w' = w.drewN n := by
  have hn : ¬ 0 ≤ cmpB a b := by omega
  refine ⟨b.extract 0 (shared a.data.toList b.data.toList + 1), ?_, ?_, ?_, fun w => ?_⟩
  · unfold cmpB; rw [extract_list]; exact cmp_take_cut _ _ h
  · unfold cmpB; rw [extract_list]; exact cmp_take_le _ _
  · rw [← len_eq, ← len_eq, extract_list]; exact List.length_take_le' _ _
  · have := Cut_any a b w ha hb
    rw [cutB_some hn] at this; exact this
theorem Cut_ge {a b : ByteArray} (h : 0 ≤ cmpB a b) (ha : a.size ≤ maxLen) (hb : b.size ≤ maxLen) (w : World) :
    Calls Try.prog 9 #[.string a, .string b] w fun e w' => e = .returned (.tuple #[.string ⟨#[]⟩, .bool false]) ∧ ∃ n, w' = w.drewN n := by
  have := Cut_any a b w ha hb
  rw [cutB_none h] at this; exact this
theorem nextB (a : ByteArray) : (a ++ ⟨#[0]⟩ : ByteArray).data.toList = a.data.toList ++ [0] := by simp
theorem cmp_nextB (a : ByteArray) : cmpB a (a ++ ⟨#[0]⟩) = -1 := by unfold cmpB; rw [nextB]; exact cmp_next _
theorem cmp_nextB_none {a b : ByteArray} (h : cmpB a b < 0) : ¬ cmpB b (a ++ ⟨#[0]⟩) < 0 := by unfold cmpB at *; rw [nextB]; exact cmp_next_none h


set_option maxHeartbeats 4000000 in
theorem LexRow_mm (a b c : ByteArray) (w : World) (ha : a.size ≤ maxLen) (hb : b.size ≤ maxLen) (hn : a.size < maxLen) (hx : cmpB a b = -1) (hy : cmpB b c = -1) :
    Calls Try.prog 4 #[.string a, .string b, .string c] w fun e w' => e = .returned (.bool true) ∧ Below w.heap.size w w' := by
  have hba : cmpB b a = 1 := by have : cmpB a b = -cmpB b a := cmp_neg _ _; omega
  have hne : (a.toList == b.toList) = false := by
    rw [beq_eq_false_iff_ne, Lib.toList_data, Lib.toList_data]; intro e; unfold cmpB at hx; rw [e, cmp_self] at hx; omega
  have hz : cmpB a c ≤ 0 := cmp_trans_le (a := a.data.toList) (b := b.data.toList) (c := c.data.toList) (by unfold cmpB at hx; omega) (by unfold cmpB at hy; omega)
  have z1 : decide (0 < cmpB a c) = false := by simp; omega
  have hz2 : cmpB a c < 0 := cmp_trans_lt (a := a.data.toList) (b := b.data.toList) (c := c.data.toList) (by unfold cmpB at hx; omega) (by unfold cmpB at hy; omega)
  have z2 : decide (0 ≤ cmpB a c) = false := by simp; omega
  clear hz2
  clear hz
  obtain ⟨s, hs1, hs2, hs3, hcut⟩ := Cut_lt (by omega) ha hb
  have hnn := cmp_nextB_none (a := a) (b := b) (by omega)
  have hn0 := cmp_nextB a
  have HC := Lib.hid hcut
  have Hn := Lib.hid hn
  have cab := fun w => Lib.hid (Compare_is hx w)
  have cbc := fun w => Lib.hid (Compare_is hy w)
  have cba := fun w => Lib.hid (Compare_is hba w)
  have can := fun w => Lib.hid (Compare_is hn0 w)
  clear hcut hn hx hba hn0 hy
  go_enter Try.func4, Try.ntmps4
  go_wp2_with fail
  refine (cab _).out.mono ?_
  rintro e w1 ⟨rfl, rfl⟩
  go_wp2_with fail
  refine (cbc _).out.mono ?_
  rintro e w1 ⟨rfl, rfl⟩
  go_wp2_with fail
  refine (Compare_any _ _ _).mono ?_
  rintro e w1 ⟨rfl, rfl⟩
  go_wp2_with fail
  refine (cba _).out.mono ?_
  rintro e w1 ⟨rfl, rfl⟩
  go_wp2_with fail
  refine (Next_any _ _ Hn.out).mono ?_
  rintro e w1 ⟨rfl, rfl⟩
  go_wp2_with fail
  refine (can _).out.mono ?_
  rintro e w1 ⟨rfl, rfl⟩
  go_wp2_with fail
  refine (cab _).out.mono ?_
  rintro e w1 ⟨rfl, rfl⟩
  go_wp2_with fail
  refine (Compare_any _ _ _).mono ?_
  rintro e w1 ⟨rfl, rfl⟩
  go_wp2_with fail
  refine (HC.out _).mono ?_
  rintro e w1 ⟨rfl, n1, rfl⟩
  go_wp2_with fail
  refine (Compare_any _ _ _).mono ?_
  rintro e w1 ⟨rfl, rfl⟩
  go_wp2_with fail
  refine (Compare_any _ _ _).mono ?_
  rintro e w1 ⟨rfl, rfl⟩
  go_wp2_with fail
  refine (awake_any _).mono ?_
  rintro e w1 ⟨rfl, hb1⟩
  go_wp2_with fail
  go_ret
  exact ⟨rfl, Calm.bt (Calm.bd (Calm.br _) _) hb1⟩

set_option maxHeartbeats 4000000 in
theorem LexRow_mz (a b c : ByteArray) (w : World) (ha : a.size ≤ maxLen) (hb : b.size ≤ maxLen) (hn : a.size < maxLen) (hx : cmpB a b = -1) (hy : cmpB b c = 0) :
    Calls Try.prog 4 #[.string a, .string b, .string c] w fun e w' => e = .returned (.bool true) ∧ Below w.heap.size w w' := by
  have hba : cmpB b a = 1 := by have : cmpB a b = -cmpB b a := cmp_neg _ _; omega
  have hne : (a.toList == b.toList) = false := by
    rw [beq_eq_false_iff_ne, Lib.toList_data, Lib.toList_data]; intro e; unfold cmpB at hx; rw [e, cmp_self] at hx; omega
  have hz : cmpB a c ≤ 0 := cmp_trans_le (a := a.data.toList) (b := b.data.toList) (c := c.data.toList) (by unfold cmpB at hx; omega) (by unfold cmpB at hy; omega)
  have z1 : decide (0 < cmpB a c) = false := by simp; omega
  clear hz
  obtain ⟨s, hs1, hs2, hs3, hcut⟩ := Cut_lt (by omega) ha hb
  have hnn := cmp_nextB_none (a := a) (b := b) (by omega)
  have hn0 := cmp_nextB a
  have HC := Lib.hid hcut
  have Hn := Lib.hid hn
  have cab := fun w => Lib.hid (Compare_is hx w)
  have cbc := fun w => Lib.hid (Compare_is hy w)
  have cba := fun w => Lib.hid (Compare_is hba w)
  have can := fun w => Lib.hid (Compare_is hn0 w)
  clear hcut hn hx hba hn0 hy
  go_enter Try.func4, Try.ntmps4
  go_wp2_with fail
  refine (cab _).out.mono ?_
  rintro e w1 ⟨rfl, rfl⟩
  go_wp2_with fail
  refine (cbc _).out.mono ?_
  rintro e w1 ⟨rfl, rfl⟩
  go_wp2_with fail
  refine (Compare_any _ _ _).mono ?_
  rintro e w1 ⟨rfl, rfl⟩
  go_wp2_with fail
  refine (cba _).out.mono ?_
  rintro e w1 ⟨rfl, rfl⟩
  go_wp2_with fail
  refine (Next_any _ _ Hn.out).mono ?_
  rintro e w1 ⟨rfl, rfl⟩
  go_wp2_with fail
  refine (can _).out.mono ?_
  rintro e w1 ⟨rfl, rfl⟩
  go_wp2_with fail
  refine (cab _).out.mono ?_
  rintro e w1 ⟨rfl, rfl⟩
  go_wp2_with fail
  refine (Compare_any _ _ _).mono ?_
  rintro e w1 ⟨rfl, rfl⟩
  go_wp2_with fail
  refine (HC.out _).mono ?_
  rintro e w1 ⟨rfl, n1, rfl⟩
  go_wp2_with fail
  refine (Compare_any _ _ _).mono ?_
  rintro e w1 ⟨rfl, rfl⟩
  go_wp2_with fail
  refine (Compare_any _ _ _).mono ?_
  rintro e w1 ⟨rfl, rfl⟩
  go_wp2_with fail
  refine (awake_any _).mono ?_
  rintro e w1 ⟨rfl, hb1⟩
  go_wp2_with fail
  go_ret
  exact ⟨rfl, Calm.bt (Calm.bd (Calm.br _) _) hb1⟩

set_option maxHeartbeats 4000000 in
theorem LexRow_mp (a b c : ByteArray) (w : World) (ha : a.size ≤ maxLen) (hb : b.size ≤ maxLen) (hn : a.size < maxLen) (hx : cmpB a b = -1) (hy : cmpB b c = 1) :
    Calls Try.prog 4 #[.string a, .string b, .string c] w fun e w' => e = .returned (.bool true) ∧ Below w.heap.size w w' := by
  have hba : cmpB b a = 1 := by have : cmpB a b = -cmpB b a := cmp_neg _ _; omega
  have hne : (a.toList == b.toList) = false := by
    rw [beq_eq_false_iff_ne, Lib.toList_data, Lib.toList_data]; intro e; unfold cmpB at hx; rw [e, cmp_self] at hx; omega
  obtain ⟨s, hs1, hs2, hs3, hcut⟩ := Cut_lt (by omega) ha hb
  have hnn := cmp_nextB_none (a := a) (b := b) (by omega)
  have hn0 := cmp_nextB a
  have HC := Lib.hid hcut
  have Hn := Lib.hid hn
  have cab := fun w => Lib.hid (Compare_is hx w)
  have cbc := fun w => Lib.hid (Compare_is hy w)
  have cba := fun w => Lib.hid (Compare_is hba w)
  have can := fun w => Lib.hid (Compare_is hn0 w)
  clear hcut hn hx hba hn0 hy
  go_enter Try.func4, Try.ntmps4
  go_wp2_with fail
  refine (cab _).out.mono ?_
  rintro e w1 ⟨rfl, rfl⟩
  go_wp2_with fail
  refine (cbc _).out.mono ?_
  rintro e w1 ⟨rfl, rfl⟩
  go_wp2_with fail
  refine (Compare_any _ _ _).mono ?_
  rintro e w1 ⟨rfl, rfl⟩
  go_wp2_with fail
  refine (cba _).out.mono ?_
  rintro e w1 ⟨rfl, rfl⟩
  go_wp2_with fail
  refine (Next_any _ _ Hn.out).mono ?_
  rintro e w1 ⟨rfl, rfl⟩
  go_wp2_with fail
  refine (can _).out.mono ?_
  rintro e w1 ⟨rfl, rfl⟩
  go_wp2_with fail
  refine (cab _).out.mono ?_
  rintro e w1 ⟨rfl, rfl⟩
  go_wp2_with fail
  refine (Compare_any _ _ _).mono ?_
  rintro e w1 ⟨rfl, rfl⟩
  go_wp2_with fail
  refine (HC.out _).mono ?_
  rintro e w1 ⟨rfl, n1, rfl⟩
  go_wp2_with fail
  refine (Compare_any _ _ _).mono ?_
  rintro e w1 ⟨rfl, rfl⟩
  go_wp2_with fail
  refine (Compare_any _ _ _).mono ?_
  rintro e w1 ⟨rfl, rfl⟩
  go_wp2_with fail
  refine (awake_any _).mono ?_
  rintro e w1 ⟨rfl, hb1⟩
  go_wp2_with fail
  go_ret
  exact ⟨rfl, Calm.bt (Calm.bd (Calm.br _) _) hb1⟩

set_option maxHeartbeats 4000000 in
theorem LexRow_zm (a b c : ByteArray) (w : World) (ha : a.size ≤ maxLen) (hb : b.size ≤ maxLen) (hn : a.size < maxLen) (hx : cmpB a b = 0) (hy : cmpB b c = -1) :
    Calls Try.prog 4 #[.string a, .string b, .string c] w fun e w' => e = .returned (.bool true) ∧ Below w.heap.size w w' := by
  have hba : cmpB b a = 0 := by have : cmpB a b = -cmpB b a := cmp_neg _ _; omega
  have hne : (a.toList == b.toList) = true := by
    rw [beq_iff_eq, Lib.toList_data, Lib.toList_data]; exact cmp_zero hx
  have hz : cmpB a c ≤ 0 := cmp_trans_le (a := a.data.toList) (b := b.data.toList) (c := c.data.toList) (by unfold cmpB at hx; omega) (by unfold cmpB at hy; omega)
  have z1 : decide (0 < cmpB a c) = false := by simp; omega
  clear hz
  have hcut := Cut_ge (by omega) ha hb
  have hn0 := cmp_nextB a
  have HC := Lib.hid hcut
  have Hn := Lib.hid hn
  have cab := fun w => Lib.hid (Compare_is hx w)
  have cbc := fun w => Lib.hid (Compare_is hy w)
  have cba := fun w => Lib.hid (Compare_is hba w)
  have can := fun w => Lib.hid (Compare_is hn0 w)
  clear hcut hn hx hba hn0 hy
  go_enter Try.func4, Try.ntmps4
  go_wp2_with fail
  refine (cab _).out.mono ?_
  rintro e w1 ⟨rfl, rfl⟩
  go_wp2_with fail
  refine (cbc _).out.mono ?_
  rintro e w1 ⟨rfl, rfl⟩
  go_wp2_with fail
  refine (Compare_any _ _ _).mono ?_
  rintro e w1 ⟨rfl, rfl⟩
  go_wp2_with fail
  refine (cba _).out.mono ?_
  rintro e w1 ⟨rfl, rfl⟩
  go_wp2_with fail
  refine (Next_any _ _ Hn.out).mono ?_
  rintro e w1 ⟨rfl, rfl⟩
  go_wp2_with fail
  refine (can _).out.mono ?_
  rintro e w1 ⟨rfl, rfl⟩
  go_wp2_with fail
  refine (cab _).out.mono ?_
  rintro e w1 ⟨rfl, rfl⟩
  go_wp2_with fail
  refine (HC.out _).mono ?_
  rintro e w1 ⟨rfl, n1, rfl⟩
  go_wp2_with fail
  refine (awake_any _).mono ?_
  rintro e w1 ⟨rfl, hb1⟩
  go_wp2_with fail
  go_ret
  exact ⟨rfl, Calm.bt (Calm.bd (Calm.br _) _) hb1⟩

set_option maxHeartbeats 4000000 in
theorem LexRow_zz (a b c : ByteArray) (w : World) (ha : a.size ≤ maxLen) (hb : b.size ≤ maxLen) (hn : a.size < maxLen) (hx : cmpB a b = 0) (hy : cmpB b c = 0) :
    Calls Try.prog 4 #[.string a, .string b, .string c] w fun e w' => e = .returned (.bool true) ∧ Below w.heap.size w w' := by
  have hba : cmpB b a = 0 := by have : cmpB a b = -cmpB b a := cmp_neg _ _; omega
  have hne : (a.toList == b.toList) = true := by
    rw [beq_iff_eq, Lib.toList_data, Lib.toList_data]; exact cmp_zero hx
  have hz : cmpB a c ≤ 0 := cmp_trans_le (a := a.data.toList) (b := b.data.toList) (c := c.data.toList) (by unfold cmpB at hx; omega) (by unfold cmpB at hy; omega)
  have z1 : decide (0 < cmpB a c) = false := by simp; omega
  clear hz
  have hcut := Cut_ge (by omega) ha hb
  have hn0 := cmp_nextB a
  have HC := Lib.hid hcut
  have Hn := Lib.hid hn
  have cab := fun w => Lib.hid (Compare_is hx w)
  have cbc := fun w => Lib.hid (Compare_is hy w)
  have cba := fun w => Lib.hid (Compare_is hba w)
  have can := fun w => Lib.hid (Compare_is hn0 w)
  clear hcut hn hx hba hn0 hy
  go_enter Try.func4, Try.ntmps4
  go_wp2_with fail
  refine (cab _).out.mono ?_
  rintro e w1 ⟨rfl, rfl⟩
  go_wp2_with fail
  refine (cbc _).out.mono ?_
  rintro e w1 ⟨rfl, rfl⟩
  go_wp2_with fail
  refine (Compare_any _ _ _).mono ?_
  rintro e w1 ⟨rfl, rfl⟩
  go_wp2_with fail
  refine (cba _).out.mono ?_
  rintro e w1 ⟨rfl, rfl⟩
  go_wp2_with fail
  refine (Next_any _ _ Hn.out).mono ?_
  rintro e w1 ⟨rfl, rfl⟩
  go_wp2_with fail
  refine (can _).out.mono ?_
  rintro e w1 ⟨rfl, rfl⟩
  go_wp2_with fail
  refine (cab _).out.mono ?_
  rintro e w1 ⟨rfl, rfl⟩
  go_wp2_with fail
  refine (HC.out _).mono ?_
  rintro e w1 ⟨rfl, n1, rfl⟩
  go_wp2_with fail
  refine (awake_any _).mono ?_
  rintro e w1 ⟨rfl, hb1⟩
  go_wp2_with fail
  go_ret
  exact ⟨rfl, Calm.bt (Calm.bd (Calm.br _) _) hb1⟩

set_option maxHeartbeats 4000000 in
theorem LexRow_zp (a b c : ByteArray) (w : World) (ha : a.size ≤ maxLen) (hb : b.size ≤ maxLen) (hn : a.size < maxLen) (hx : cmpB a b = 0) (hy : cmpB b c = 1) :
    Calls Try.prog 4 #[.string a, .string b, .string c] w fun e w' => e = .returned (.bool true) ∧ Below w.heap.size w w' := by
  have hba : cmpB b a = 0 := by have : cmpB a b = -cmpB b a := cmp_neg _ _; omega
  have hne : (a.toList == b.toList) = true := by
    rw [beq_iff_eq, Lib.toList_data, Lib.toList_data]; exact cmp_zero hx
  have hcut := Cut_ge (by omega) ha hb
  have hn0 := cmp_nextB a
  have HC := Lib.hid hcut
  have Hn := Lib.hid hn
  have cab := fun w => Lib.hid (Compare_is hx w)
  have cbc := fun w => Lib.hid (Compare_is hy w)
  have cba := fun w => Lib.hid (Compare_is hba w)
  have can := fun w => Lib.hid (Compare_is hn0 w)
  clear hcut hn hx hba hn0 hy
  go_enter Try.func4, Try.ntmps4
  go_wp2_with fail
  refine (cab _).out.mono ?_
  rintro e w1 ⟨rfl, rfl⟩
  go_wp2_with fail
  refine (cbc _).out.mono ?_
  rintro e w1 ⟨rfl, rfl⟩
  go_wp2_with fail
  refine (Compare_any _ _ _).mono ?_
  rintro e w1 ⟨rfl, rfl⟩
  go_wp2_with fail
  refine (cba _).out.mono ?_
  rintro e w1 ⟨rfl, rfl⟩
  go_wp2_with fail
  refine (Next_any _ _ Hn.out).mono ?_
  rintro e w1 ⟨rfl, rfl⟩
  go_wp2_with fail
  refine (can _).out.mono ?_
  rintro e w1 ⟨rfl, rfl⟩
  go_wp2_with fail
  refine (cab _).out.mono ?_
  rintro e w1 ⟨rfl, rfl⟩
  go_wp2_with fail
  refine (HC.out _).mono ?_
  rintro e w1 ⟨rfl, n1, rfl⟩
  go_wp2_with fail
  refine (awake_any _).mono ?_
  rintro e w1 ⟨rfl, hb1⟩
  go_wp2_with fail
  go_ret
  exact ⟨rfl, Calm.bt (Calm.bd (Calm.br _) _) hb1⟩

set_option maxHeartbeats 4000000 in
theorem LexRow_pm (a b c : ByteArray) (w : World) (ha : a.size ≤ maxLen) (hb : b.size ≤ maxLen) (hn : a.size < maxLen) (hx : cmpB a b = 1) (hy : cmpB b c = -1) :
    Calls Try.prog 4 #[.string a, .string b, .string c] w fun e w' => e = .returned (.bool true) ∧ Below w.heap.size w w' := by
  have hba : cmpB b a = -1 := by have : cmpB a b = -cmpB b a := cmp_neg _ _; omega
  have hne : (a.toList == b.toList) = false := by
    rw [beq_eq_false_iff_ne, Lib.toList_data, Lib.toList_data]; intro e; unfold cmpB at hx; rw [e, cmp_self] at hx; omega
  have hcut := Cut_ge (by omega) ha hb
  have hn0 := cmp_nextB a
  have HC := Lib.hid hcut
  have Hn := Lib.hid hn
  have cab := fun w => Lib.hid (Compare_is hx w)
  have cbc := fun w => Lib.hid (Compare_is hy w)
  have cba := fun w => Lib.hid (Compare_is hba w)
  have can := fun w => Lib.hid (Compare_is hn0 w)
  clear hcut hn hx hba hn0 hy
  go_enter Try.func4, Try.ntmps4
  go_wp2_with fail
  refine (cab _).out.mono ?_
  rintro e w1 ⟨rfl, rfl⟩
  go_wp2_with fail
  refine (cbc _).out.mono ?_
  rintro e w1 ⟨rfl, rfl⟩
  go_wp2_with fail
  refine (Compare_any _ _ _).mono ?_
  rintro e w1 ⟨rfl, rfl⟩
  go_wp2_with fail
  refine (cba _).out.mono ?_
  rintro e w1 ⟨rfl, rfl⟩
  go_wp2_with fail
  refine (Next_any _ _ Hn.out).mono ?_
  rintro e w1 ⟨rfl, rfl⟩
  go_wp2_with fail
  refine (can _).out.mono ?_
  rintro e w1 ⟨rfl, rfl⟩
  go_wp2_with fail
  refine (cab _).out.mono ?_
  rintro e w1 ⟨rfl, rfl⟩
  go_wp2_with fail
  refine (HC.out _).mono ?_
  rintro e w1 ⟨rfl, n1, rfl⟩
  go_wp2_with fail
  refine (awake_any _).mono ?_
  rintro e w1 ⟨rfl, hb1⟩
  go_wp2_with fail
  go_ret
  exact ⟨rfl, Calm.bt (Calm.bd (Calm.br _) _) hb1⟩

set_option maxHeartbeats 4000000 in
theorem LexRow_pz (a b c : ByteArray) (w : World) (ha : a.size ≤ maxLen) (hb : b.size ≤ maxLen) (hn : a.size < maxLen) (hx : cmpB a b = 1) (hy : cmpB b c = 0) :
    Calls Try.prog 4 #[.string a, .string b, .string c] w fun e w' => e = .returned (.bool true) ∧ Below w.heap.size w w' := by
  have hba : cmpB b a = -1 := by have : cmpB a b = -cmpB b a := cmp_neg _ _; omega
  have hne : (a.toList == b.toList) = false := by
    rw [beq_eq_false_iff_ne, Lib.toList_data, Lib.toList_data]; intro e; unfold cmpB at hx; rw [e, cmp_self] at hx; omega
  have hcut := Cut_ge (by omega) ha hb
  have hn0 := cmp_nextB a
  have HC := Lib.hid hcut
  have Hn := Lib.hid hn
  have cab := fun w => Lib.hid (Compare_is hx w)
  have cbc := fun w => Lib.hid (Compare_is hy w)
  have cba := fun w => Lib.hid (Compare_is hba w)
  have can := fun w => Lib.hid (Compare_is hn0 w)
  clear hcut hn hx hba hn0 hy
  go_enter Try.func4, Try.ntmps4
  go_wp2_with fail
  refine (cab _).out.mono ?_
  rintro e w1 ⟨rfl, rfl⟩
  go_wp2_with fail
  refine (cbc _).out.mono ?_
  rintro e w1 ⟨rfl, rfl⟩
  go_wp2_with fail
  refine (Compare_any _ _ _).mono ?_
  rintro e w1 ⟨rfl, rfl⟩
  go_wp2_with fail
  refine (cba _).out.mono ?_
  rintro e w1 ⟨rfl, rfl⟩
  go_wp2_with fail
  refine (Next_any _ _ Hn.out).mono ?_
  rintro e w1 ⟨rfl, rfl⟩
  go_wp2_with fail
  refine (can _).out.mono ?_
  rintro e w1 ⟨rfl, rfl⟩
  go_wp2_with fail
  refine (cab _).out.mono ?_
  rintro e w1 ⟨rfl, rfl⟩
  go_wp2_with fail
  refine (HC.out _).mono ?_
  rintro e w1 ⟨rfl, n1, rfl⟩
  go_wp2_with fail
  refine (awake_any _).mono ?_
  rintro e w1 ⟨rfl, hb1⟩
  go_wp2_with fail
  go_ret
  exact ⟨rfl, Calm.bt (Calm.bd (Calm.br _) _) hb1⟩

set_option maxHeartbeats 4000000 in
theorem LexRow_pp (a b c : ByteArray) (w : World) (ha : a.size ≤ maxLen) (hb : b.size ≤ maxLen) (hn : a.size < maxLen) (hx : cmpB a b = 1) (hy : cmpB b c = 1) :
    Calls Try.prog 4 #[.string a, .string b, .string c] w fun e w' => e = .returned (.bool true) ∧ Below w.heap.size w w' := by
  have hba : cmpB b a = -1 := by have : cmpB a b = -cmpB b a := cmp_neg _ _; omega
  have hne : (a.toList == b.toList) = false := by
    rw [beq_eq_false_iff_ne, Lib.toList_data, Lib.toList_data]; intro e; unfold cmpB at hx; rw [e, cmp_self] at hx; omega
  have hcut := Cut_ge (by omega) ha hb
  have hn0 := cmp_nextB a
  have HC := Lib.hid hcut
  have Hn := Lib.hid hn
  have cab := fun w => Lib.hid (Compare_is hx w)
  have cbc := fun w => Lib.hid (Compare_is hy w)
  have cba := fun w => Lib.hid (Compare_is hba w)
  have can := fun w => Lib.hid (Compare_is hn0 w)
  clear hcut hn hx hba hn0 hy
  go_enter Try.func4, Try.ntmps4
  go_wp2_with fail
  refine (cab _).out.mono ?_
  rintro e w1 ⟨rfl, rfl⟩
  go_wp2_with fail
  refine (cbc _).out.mono ?_
  rintro e w1 ⟨rfl, rfl⟩
  go_wp2_with fail
  refine (Compare_any _ _ _).mono ?_
  rintro e w1 ⟨rfl, rfl⟩
  go_wp2_with fail
  refine (cba _).out.mono ?_
  rintro e w1 ⟨rfl, rfl⟩
  go_wp2_with fail
  refine (Next_any _ _ Hn.out).mono ?_
  rintro e w1 ⟨rfl, rfl⟩
  go_wp2_with fail
  refine (can _).out.mono ?_
  rintro e w1 ⟨rfl, rfl⟩
  go_wp2_with fail
  refine (cab _).out.mono ?_
  rintro e w1 ⟨rfl, rfl⟩
  go_wp2_with fail
  refine (HC.out _).mono ?_
  rintro e w1 ⟨rfl, n1, rfl⟩
  go_wp2_with fail
  refine (awake_any _).mono ?_
  rintro e w1 ⟨rfl, hb1⟩
  go_wp2_with fail
  go_ret
  exact ⟨rfl, Calm.bt (Calm.bd (Calm.br _) _) hb1⟩

theorem LexRow_walk (a b c : ByteArray) (w : World) (ha : a.size ≤ 140737488351232) (hb : b.size ≤ 140737488351232) :
    Calls Try.prog 4 #[.string a, .string b, .string c] w fun e w' => e = .returned (.bool true) ∧ Below w.heap.size w w' := by
  have ha' : a.size ≤ maxLen := by unfold maxLen; omega
  have hb' : b.size ≤ maxLen := by unfold maxLen; omega
  have hn : a.size < maxLen := by unfold maxLen; omega
  rcases cmp_range a.data.toList b.data.toList with hx | hx | hx <;> rcases cmp_range b.data.toList c.data.toList with hy | hy | hy
  · exact LexRow_mm a b c w ha' hb' hn hx hy
  · exact LexRow_mz a b c w ha' hb' hn hx hy
  · exact LexRow_mp a b c w ha' hb' hn hx hy
  · exact LexRow_zm a b c w ha' hb' hn hx hy
  · exact LexRow_zz a b c w ha' hb' hn hx hy
  · exact LexRow_zp a b c w ha' hb' hn hx hy
  · exact LexRow_pm a b c w ha' hb' hn hx hy
  · exact LexRow_pz a b c w ha' hb' hn hx hy
  · exact LexRow_pp a b c w ha' hb' hn hx hy
end Lx
end Go.Proofs.Yteadgfdjpodblaa
