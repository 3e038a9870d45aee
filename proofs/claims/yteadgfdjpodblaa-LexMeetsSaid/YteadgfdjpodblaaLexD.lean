/-
  The law LexMeets, walked.
-/
import Derived.Test.YteadgfdjpodblaaLexC
namespace Go.Proofs.Yteadgfdjpodblaa
open Go.RowKit
namespace Lx
theorem max_le (la lb key : ByteArray) : (cmpB (maxB la lb) key ≤ 0) ↔ (cmpB la key ≤ 0 ∧ cmpB lb key ≤ 0) := by
  unfold maxB
  by_cases h : cmpB la lb < 0
  · rw [if_pos h]
    exact ⟨fun k => ⟨cmp_trans_le (a := la.data.toList) (b := lb.data.toList) (c := key.data.toList) (by unfold cmpB at h; omega) k, k⟩, fun k => k.2⟩
  · rw [if_neg h]
    exact ⟨fun k => ⟨k, cmp_trans_le (a := lb.data.toList) (b := la.data.toList) (c := key.data.toList) (cmp_le_of_not_lt h) k⟩, fun k => k.1⟩
theorem lt_min (ha hb key : ByteArray) : (cmpB key (minB ha hb) < 0) ↔ (cmpB key ha < 0 ∧ cmpB key hb < 0) := by
  unfold minB
  by_cases h : cmpB ha hb ≤ 0
  · rw [if_pos h]
    exact ⟨fun k => ⟨k, cmp_trans_lt_le (a := key.data.toList) (b := ha.data.toList) (c := hb.data.toList) k h⟩, fun k => k.1⟩
  · rw [if_neg h]
    exact ⟨fun k => ⟨cmp_trans_lt (a := key.data.toList) (b := hb.data.toList) (c := ha.data.toList) k (cmp_lt_of_not_le h), k⟩, fun k => k.2⟩
/-- the span of both has just the keys of both -/
theorem meet_in (la ha : ByteArray) (ta : Bool) (lb hb : ByteArray) (tb : Bool) (key : ByteArray) :
    inB (maxB la lb) (lowerB ha ta hb tb) (ta && tb) key = (inB la ha ta key && inB lb hb tb key) := by
  have h1 := max_le la lb key
  have h2 := lt_min ha hb key
  unfold inB
  rw [Bool.eq_iff_iff]
  cases ta <;> cases tb <;> simp [lowerB, h1, h2]
  · constructor
    · rintro ⟨⟨a, b⟩, c, d⟩; exact ⟨⟨a, c⟩, b, d⟩
    · rintro ⟨⟨a, c⟩, b, d⟩; exact ⟨⟨a, b⟩, c, d⟩
  · constructor
    · rintro ⟨⟨a, b⟩, c⟩; exact ⟨⟨a, c⟩, b⟩
    · rintro ⟨⟨a, c⟩, b⟩; exact ⟨⟨a, b⟩, c⟩
  · constructor
    · rintro ⟨⟨a, b⟩, c⟩; exact ⟨a, b, c⟩
    · rintro ⟨a, b, c⟩; exact ⟨⟨a, b⟩, c⟩
theorem meet_some (la ha : ByteArray) (ta : Bool) (lb hb : ByteArray) (tb : Bool) :
    emptyB (maxB la lb) (lowerB ha ta hb tb) (ta && tb) = !(inB la ha ta (maxB la lb) && inB lb hb tb (maxB la lb)) := by
  rw [empty_in, meet_in]
theorem meet_none {la ha : ByteArray} {ta : Bool} {lb hb : ByteArray} {tb : Bool} (h : emptyB (maxB la lb) (lowerB ha ta hb tb) (ta && tb) = true) (key : ByteArray) :
    (inB la ha ta key && inB lb hb tb key) = false := by
  rw [← meet_in]; exact in_of_empty h
theorem Meet_none {la ha : ByteArray} {ta : Bool} {lb hb : ByteArray} {tb : Bool} (h : emptyB (maxB la lb) (lowerB ha ta hb tb) (ta && tb) = true) (w : World) :
    Calls Try.prog 21 #[spanV la ha ta, spanV lb hb tb] w fun e w' => e = .returned (.tuple #[spanV ⟨#[]⟩ ⟨#[]⟩ false, .bool false]) ∧ Below w.heap.size w w' := by
  have := Meet_any la ha ta lb hb tb w
  unfold meetV meetB at this
  rw [if_pos h] at this; exact this
theorem Meet_some {la ha : ByteArray} {ta : Bool} {lb hb : ByteArray} {tb : Bool} (h : emptyB (maxB la lb) (lowerB ha ta hb tb) (ta && tb) = false) (w : World) :
    Calls Try.prog 21 #[spanV la ha ta, spanV lb hb tb] w fun e w' => e = .returned (.tuple #[spanV (maxB la lb) (lowerB ha ta hb tb) (ta && tb), .bool true]) ∧ Below w.heap.size w w' := by
  have := Meet_any la ha ta lb hb tb w
  unfold meetV meetB at this
  rw [if_neg (by rw [h]; exact Bool.false_ne_true)] at this; exact this
/-! the walks -/
set_option maxHeartbeats 4000000 in
set_option maxRecDepth 100000 in
theorem LexMeets_n111 (la ha : ByteArray) (ta : Bool) (lb hb : ByteArray) (tb : Bool) (key : ByteArray) (w : World)
    (hl : longB [la, ha, lb, hb, key] = false) (hsa : la.size ≤ maxLen) (hsb : lb.size ≤ maxLen) (hsk : key.size ≤ maxLen)
    (hc : cmpB la lb < 0) (he : emptyB lb (lowerB ha ta hb tb) (ta && tb) = true) (hv : inB la ha ta key = true) (hi : inB la ha ta lb = true) :
    Calls Try.prog 6 #[spanV la ha ta, spanV lb hb tb, .string key] w fun e w' => e = .returned (.bool true) ∧ Below w.heap.size w w' := by
  have hm : maxB la lb = lb := by unfold maxB; rw [if_pos hc]
  have he2 := he
  rw [← hm] at he2
  have hn := meet_none he2 key
  rw [hv] at hn
  have hv2 : inB lb hb tb key = false := by simpa using hn
  have hn2 := meet_none he2 lb
  rw [hi] at hn2
  have hi2 : inB lb hb tb lb = false := by simpa using hn2
  have HM := fun w => Lib.hid (Meet_none he2 w)
  clear hn hn2
  have HL := Lib.hid hl
  have hc' : decide (cmpB la lb < 0) = true := by simpa using hc
  have c1 := fun w => Lib.hid (RIn_is hv hsa hsk w)
  have c2 := fun w => Lib.hid (RIn_is hv2 hsb hsk w)
  have c3 := fun w => Lib.hid (RIn_is hi hsa (by assumption) w)
  have c4 := fun w => Lib.hid (RIn_is hi2 hsb (by assumption) w)
  clear hl he he2 hm hv hi hc hv2 hi2
  go_enter Try.func6, Try.ntmps6
  go_wp2_with fail
  refine (long_any [la, ha, lb, hb, key] _ _ (by simp) ?_).mono ?_
  · intro j hj
    match j, hj with
    | 0, _ => simp [go_sem]
    | 1, _ => simp [go_sem]
    | 2, _ => simp [go_sem]
    | 3, _ => simp [go_sem]
    | 4, _ => simp [go_sem]
  rintro e w1 ⟨rfl, rfl⟩
  rw [HL.out]
  go_wp2_with fail
  refine (HM _).out.mono ?_
  have HA0 : Calm.Has (((w.alloc (.cells #[.string la, .string ha, .bool ta] 31)).alloc (.cells #[.string lb, .string hb, .bool tb] 31)).alloc (.cells #[.string la, .string ha, .string lb, .string hb, .string key] 9)) w.heap.size #[.string la, .string ha, .bool ta] 31 := ((Calm.Has.new _ _ _).alloc _).alloc _
  have HB0 : Calm.Has (((w.alloc (.cells #[.string la, .string ha, .bool ta] 31)).alloc (.cells #[.string lb, .string hb, .bool tb] 31)).alloc (.cells #[.string la, .string ha, .string lb, .string hb, .string key] 9)) (w.heap.size + 1) #[.string lb, .string hb, .bool tb] 31 := by
    have h := (Calm.Has.new (w.alloc (.cells #[.string la, .string ha, .bool ta] 31)) #[.string lb, .string hb, .bool tb] 31).alloc (.cells #[.string la, .string ha, .string lb, .string hb, .string key] 9)
    simpa using h
  have hX := Calm.ba (Calm.ba (Calm.ba (Calm.br w) (.cells #[.string la, .string ha, .bool ta] 31)) (.cells #[.string lb, .string hb, .bool tb] 31)) (.cells #[.string la, .string ha, .string lb, .string hb, .string key] 9)
  rintro e w1 ⟨rfl, hb1⟩
  have hW1 := Calm.bt hX hb1
  have HA1 := HA0.kept hb1
  have HB1 := HB0.kept hb1
  clear HA0 HB0 hX hb1
  have HS1 : Calm.Has (w1.alloc (.cells #[.string ⟨#[]⟩, .string ⟨#[]⟩, .bool false] 31)) w1.heap.size #[.string ⟨#[]⟩, .string ⟨#[]⟩, .bool false] 31 := Calm.Has.new _ _ _
  have HA2 := HA1.alloc (.cells #[.string ⟨#[]⟩, .string ⟨#[]⟩, .bool false] 31)
  have HB2 := HB1.alloc (.cells #[.string ⟨#[]⟩, .string ⟨#[]⟩, .bool false] 31)
  have hW2 := Calm.ba hW1 (.cells #[.string ⟨#[]⟩, .string ⟨#[]⟩, .bool false] 31)
  clear hW1
  have l0 := HA1.lt
  have l1 := HB1.lt
  have a0 := HA1.cell 0
  have a1 := HA1.cell 1
  have a2 := HA1.cell 2
  go_wp2_with fail
  clear a0 a1 a2 HA1 HB1 l0 l1
  generalize hx : w1.alloc _ = x1 at *
  clear hx
  have hsl : w1.heap.size < x1.heap.size := HS1.lt
  generalize w1.heap.size = sb at *
  refine (c1 _).out.mono ?_
  rintro e w2 ⟨rfl, hb2⟩
  have HA3 := HA2.kept hb2
  have HB3 := HB2.kept hb2
  have HS3 := HS1.kept hb2
  have hW3 := Calm.bt hW2 hb2
  clear HA2 HB2 HS1 hW2 hb2 hsl
  have a0 := HA3.cell 0
  have a1 := HA3.cell 1
  have a2 := HA3.cell 2
  have b0 := HB3.cell 0
  have b1 := HB3.cell 1
  have b2 := HB3.cell 2
  have s0 := HS3.cell 0
  have s1 := HS3.cell 1
  have s2 := HS3.cell 2
  go_wp2_with fail
  refine (c2 _).out.mono ?_
  rintro e w3 ⟨rfl, hb3⟩
  clear a0 a1 a2 b0 b1 b2 s0 s1 s2
  have HA4 := HA3.kept hb3
  have HB4 := HB3.kept hb3
  have HS4 := HS3.kept hb3
  have hW4 := Calm.bt hW3 hb3
  clear HA3 HB3 HS3 hW3 hb3
  have a0 := HA4.cell 0
  have a1 := HA4.cell 1
  have a2 := HA4.cell 2
  have b0 := HB4.cell 0
  have b1 := HB4.cell 1
  have b2 := HB4.cell 2
  have s0 := HS4.cell 0
  have s1 := HS4.cell 1
  have s2 := HS4.cell 2
  go_wp2_with fail
  refine (RCompare_any _ _ _ hsa).mono ?_
  rintro e w2 ⟨rfl, nd, rfl⟩
  clear a0 a1 a2 b0 b1 b2 s0 s1 s2
  have HA5 := HA4.drewN nd
  have HB5 := HB4.drewN nd
  have HS5 := HS4.drewN nd
  have hW5 := Calm.bd hW4 nd
  clear HA4 HB4 HS4 hW4
  generalize hxd : World.drewN _ nd = xd at *
  clear hxd
  have a0 := HA5.cell 0
  have a1 := HA5.cell 1
  have a2 := HA5.cell 2
  have b0 := HB5.cell 0
  have b1 := HB5.cell 1
  have b2 := HB5.cell 2
  have s0 := HS5.cell 0
  have s1 := HS5.cell 1
  have s2 := HS5.cell 2
  go_wp2_with fail
  refine (c3 _).out.mono ?_
  rintro e w5 ⟨rfl, hb5⟩
  clear a0 a1 a2 b0 b1 b2 s0 s1 s2
  have HA6 := HA5.kept hb5
  have HB6 := HB5.kept hb5
  have HS6 := HS5.kept hb5
  have hW6 := Calm.bt hW5 hb5
  clear HA5 HB5 HS5 hW5 hb5
  have a0 := HA6.cell 0
  have a1 := HA6.cell 1
  have a2 := HA6.cell 2
  have b0 := HB6.cell 0
  have b1 := HB6.cell 1
  have b2 := HB6.cell 2
  have s0 := HS6.cell 0
  have s1 := HS6.cell 1
  have s2 := HS6.cell 2
  go_wp2_with fail
  refine (c4 _).out.mono ?_
  rintro e w6 ⟨rfl, hb6⟩
  clear a0 a1 a2 b0 b1 b2 s0 s1 s2
  have HA7 := HA6.kept hb6
  have HB7 := HB6.kept hb6
  have HS7 := HS6.kept hb6
  have hW7 := Calm.bt hW6 hb6
  clear HA6 HB6 HS6 hW6 hb6
  have a0 := HA7.cell 0
  have a1 := HA7.cell 1
  have a2 := HA7.cell 2
  have b0 := HB7.cell 0
  have b1 := HB7.cell 1
  have b2 := HB7.cell 2
  have s0 := HS7.cell 0
  have s1 := HS7.cell 1
  have s2 := HS7.cell 2
  go_wp2_with fail
  refine (awake_any _).mono ?_
  rintro e w9 ⟨rfl, hb9⟩
  go_wp2_with fail
  go_ret
  exact ⟨rfl, Calm.bt hW7 hb9⟩

set_option maxHeartbeats 4000000 in
set_option maxRecDepth 100000 in
theorem LexMeets_n110 (la ha : ByteArray) (ta : Bool) (lb hb : ByteArray) (tb : Bool) (key : ByteArray) (w : World)
    (hl : longB [la, ha, lb, hb, key] = false) (hsa : la.size ≤ maxLen) (hsb : lb.size ≤ maxLen) (hsk : key.size ≤ maxLen)
    (hc : cmpB la lb < 0) (he : emptyB lb (lowerB ha ta hb tb) (ta && tb) = true) (hv : inB la ha ta key = true) (hi : inB la ha ta lb = false) :
    Calls Try.prog 6 #[spanV la ha ta, spanV lb hb tb, .string key] w fun e w' => e = .returned (.bool true) ∧ Below w.heap.size w w' := by
  have hm : maxB la lb = lb := by unfold maxB; rw [if_pos hc]
  have he2 := he
  rw [← hm] at he2
  have hn := meet_none he2 key
  rw [hv] at hn
  have hv2 : inB lb hb tb key = false := by simpa using hn
  have hn2 := meet_none he2 lb
  rw [hi] at hn2
  have HM := fun w => Lib.hid (Meet_none he2 w)
  clear hn hn2
  have HL := Lib.hid hl
  have hc' : decide (cmpB la lb < 0) = true := by simpa using hc
  have c1 := fun w => Lib.hid (RIn_is hv hsa hsk w)
  have c2 := fun w => Lib.hid (RIn_is hv2 hsb hsk w)
  have c3 := fun w => Lib.hid (RIn_is hi hsa (by assumption) w)
  clear hl he he2 hm hv hi hc hv2
  go_enter Try.func6, Try.ntmps6
  go_wp2_with fail
  refine (long_any [la, ha, lb, hb, key] _ _ (by simp) ?_).mono ?_
  · intro j hj
    match j, hj with
    | 0, _ => simp [go_sem]
    | 1, _ => simp [go_sem]
    | 2, _ => simp [go_sem]
    | 3, _ => simp [go_sem]
    | 4, _ => simp [go_sem]
  rintro e w1 ⟨rfl, rfl⟩
  rw [HL.out]
  go_wp2_with fail
  refine (HM _).out.mono ?_
  have HA0 : Calm.Has (((w.alloc (.cells #[.string la, .string ha, .bool ta] 31)).alloc (.cells #[.string lb, .string hb, .bool tb] 31)).alloc (.cells #[.string la, .string ha, .string lb, .string hb, .string key] 9)) w.heap.size #[.string la, .string ha, .bool ta] 31 := ((Calm.Has.new _ _ _).alloc _).alloc _
  have HB0 : Calm.Has (((w.alloc (.cells #[.string la, .string ha, .bool ta] 31)).alloc (.cells #[.string lb, .string hb, .bool tb] 31)).alloc (.cells #[.string la, .string ha, .string lb, .string hb, .string key] 9)) (w.heap.size + 1) #[.string lb, .string hb, .bool tb] 31 := by
    have h := (Calm.Has.new (w.alloc (.cells #[.string la, .string ha, .bool ta] 31)) #[.string lb, .string hb, .bool tb] 31).alloc (.cells #[.string la, .string ha, .string lb, .string hb, .string key] 9)
    simpa using h
  have hX := Calm.ba (Calm.ba (Calm.ba (Calm.br w) (.cells #[.string la, .string ha, .bool ta] 31)) (.cells #[.string lb, .string hb, .bool tb] 31)) (.cells #[.string la, .string ha, .string lb, .string hb, .string key] 9)
  rintro e w1 ⟨rfl, hb1⟩
  have hW1 := Calm.bt hX hb1
  have HA1 := HA0.kept hb1
  have HB1 := HB0.kept hb1
  clear HA0 HB0 hX hb1
  have HS1 : Calm.Has (w1.alloc (.cells #[.string ⟨#[]⟩, .string ⟨#[]⟩, .bool false] 31)) w1.heap.size #[.string ⟨#[]⟩, .string ⟨#[]⟩, .bool false] 31 := Calm.Has.new _ _ _
  have HA2 := HA1.alloc (.cells #[.string ⟨#[]⟩, .string ⟨#[]⟩, .bool false] 31)
  have HB2 := HB1.alloc (.cells #[.string ⟨#[]⟩, .string ⟨#[]⟩, .bool false] 31)
  have hW2 := Calm.ba hW1 (.cells #[.string ⟨#[]⟩, .string ⟨#[]⟩, .bool false] 31)
  clear hW1
  have l0 := HA1.lt
  have l1 := HB1.lt
  have a0 := HA1.cell 0
  have a1 := HA1.cell 1
  have a2 := HA1.cell 2
  go_wp2_with fail
  clear a0 a1 a2 HA1 HB1 l0 l1
  generalize hx : w1.alloc _ = x1 at *
  clear hx
  have hsl : w1.heap.size < x1.heap.size := HS1.lt
  generalize w1.heap.size = sb at *
  refine (c1 _).out.mono ?_
  rintro e w2 ⟨rfl, hb2⟩
  have HA3 := HA2.kept hb2
  have HB3 := HB2.kept hb2
  have HS3 := HS1.kept hb2
  have hW3 := Calm.bt hW2 hb2
  clear HA2 HB2 HS1 hW2 hb2 hsl
  have a0 := HA3.cell 0
  have a1 := HA3.cell 1
  have a2 := HA3.cell 2
  have b0 := HB3.cell 0
  have b1 := HB3.cell 1
  have b2 := HB3.cell 2
  have s0 := HS3.cell 0
  have s1 := HS3.cell 1
  have s2 := HS3.cell 2
  go_wp2_with fail
  refine (c2 _).out.mono ?_
  rintro e w3 ⟨rfl, hb3⟩
  clear a0 a1 a2 b0 b1 b2 s0 s1 s2
  have HA4 := HA3.kept hb3
  have HB4 := HB3.kept hb3
  have HS4 := HS3.kept hb3
  have hW4 := Calm.bt hW3 hb3
  clear HA3 HB3 HS3 hW3 hb3
  have a0 := HA4.cell 0
  have a1 := HA4.cell 1
  have a2 := HA4.cell 2
  have b0 := HB4.cell 0
  have b1 := HB4.cell 1
  have b2 := HB4.cell 2
  have s0 := HS4.cell 0
  have s1 := HS4.cell 1
  have s2 := HS4.cell 2
  go_wp2_with fail
  refine (RCompare_any _ _ _ hsa).mono ?_
  rintro e w2 ⟨rfl, nd, rfl⟩
  clear a0 a1 a2 b0 b1 b2 s0 s1 s2
  have HA5 := HA4.drewN nd
  have HB5 := HB4.drewN nd
  have HS5 := HS4.drewN nd
  have hW5 := Calm.bd hW4 nd
  clear HA4 HB4 HS4 hW4
  generalize hxd : World.drewN _ nd = xd at *
  clear hxd
  have a0 := HA5.cell 0
  have a1 := HA5.cell 1
  have a2 := HA5.cell 2
  have b0 := HB5.cell 0
  have b1 := HB5.cell 1
  have b2 := HB5.cell 2
  have s0 := HS5.cell 0
  have s1 := HS5.cell 1
  have s2 := HS5.cell 2
  go_wp2_with fail
  refine (c3 _).out.mono ?_
  rintro e w5 ⟨rfl, hb5⟩
  clear a0 a1 a2 b0 b1 b2 s0 s1 s2
  have HA6 := HA5.kept hb5
  have HB6 := HB5.kept hb5
  have HS6 := HS5.kept hb5
  have hW6 := Calm.bt hW5 hb5
  clear HA5 HB5 HS5 hW5 hb5
  have a0 := HA6.cell 0
  have a1 := HA6.cell 1
  have a2 := HA6.cell 2
  have b0 := HB6.cell 0
  have b1 := HB6.cell 1
  have b2 := HB6.cell 2
  have s0 := HS6.cell 0
  have s1 := HS6.cell 1
  have s2 := HS6.cell 2
  go_wp2_with fail
  refine (awake_any _).mono ?_
  rintro e w9 ⟨rfl, hb9⟩
  go_wp2_with fail
  go_ret
  exact ⟨rfl, Calm.bt hW6 hb9⟩

set_option maxHeartbeats 4000000 in
set_option maxRecDepth 100000 in
theorem LexMeets_s11 (la ha : ByteArray) (ta : Bool) (lb hb : ByteArray) (tb : Bool) (key : ByteArray) (w : World)
    (hl : longB [la, ha, lb, hb, key] = false) (hsa : la.size ≤ maxLen) (hsb : lb.size ≤ maxLen) (hsk : key.size ≤ maxLen)
    (hc : cmpB la lb < 0) (he : emptyB lb (lowerB ha ta hb tb) (ta && tb) = false) (hv : inB la ha ta key = true) :
    Calls Try.prog 6 #[spanV la ha ta, spanV lb hb tb, .string key] w fun e w' => e = .returned (.bool true) ∧ Below w.heap.size w w' := by
  have hm : maxB la lb = lb := by unfold maxB; rw [if_pos hc]
  have he2 := he
  rw [← hm] at he2
  have hi : inB la ha ta lb = true ∧ inB lb hb tb lb = true := by
    have h := meet_some la ha ta lb hb tb
    rw [hm, he] at h; simpa using h.symm
  obtain ⟨hi, hi2⟩ := hi
  obtain ⟨v2, hv2⟩ : ∃ v2, inB lb hb tb key = v2 := ⟨_, rfl⟩
  have hmk : inB lb (lowerB ha ta hb tb) (ta && tb) key = v2 := by
    have h := meet_in la ha ta lb hb tb key
    rw [hm, hv, hv2] at h; simpa using h
  have HM := fun w => Lib.hid (Meet_some he2 w)
  rw [hm] at HM
  have hslo : lb.size ≤ maxLen := by assumption
  have HL := Lib.hid hl
  have hc' : decide (cmpB la lb < 0) = true := by simpa using hc
  have c1 := fun w => Lib.hid (RIn_is hv hsa hsk w)
  have c2 := fun w => Lib.hid (RIn_is hv2 hsb hsk w)
  have c3 := fun w => Lib.hid (RIn_is hi hsa (by assumption) w)
  have c4 := fun w => Lib.hid (RIn_is hi2 hsb (by assumption) w)
  have c5 := fun w => Lib.hid (RIn_is hmk hslo hsk w)
  clear hl he he2 hm hv hi hc hv2 hi2 hmk
  go_enter Try.func6, Try.ntmps6
  go_wp2_with fail
  refine (long_any [la, ha, lb, hb, key] _ _ (by simp) ?_).mono ?_
  · intro j hj
    match j, hj with
    | 0, _ => simp [go_sem]
    | 1, _ => simp [go_sem]
    | 2, _ => simp [go_sem]
    | 3, _ => simp [go_sem]
    | 4, _ => simp [go_sem]
  rintro e w1 ⟨rfl, rfl⟩
  rw [HL.out]
  go_wp2_with fail
  refine (HM _).out.mono ?_
  have HA0 : Calm.Has (((w.alloc (.cells #[.string la, .string ha, .bool ta] 31)).alloc (.cells #[.string lb, .string hb, .bool tb] 31)).alloc (.cells #[.string la, .string ha, .string lb, .string hb, .string key] 9)) w.heap.size #[.string la, .string ha, .bool ta] 31 := ((Calm.Has.new _ _ _).alloc _).alloc _
  have HB0 : Calm.Has (((w.alloc (.cells #[.string la, .string ha, .bool ta] 31)).alloc (.cells #[.string lb, .string hb, .bool tb] 31)).alloc (.cells #[.string la, .string ha, .string lb, .string hb, .string key] 9)) (w.heap.size + 1) #[.string lb, .string hb, .bool tb] 31 := by
    have h := (Calm.Has.new (w.alloc (.cells #[.string la, .string ha, .bool ta] 31)) #[.string lb, .string hb, .bool tb] 31).alloc (.cells #[.string la, .string ha, .string lb, .string hb, .string key] 9)
    simpa using h
  have hX := Calm.ba (Calm.ba (Calm.ba (Calm.br w) (.cells #[.string la, .string ha, .bool ta] 31)) (.cells #[.string lb, .string hb, .bool tb] 31)) (.cells #[.string la, .string ha, .string lb, .string hb, .string key] 9)
  rintro e w1 ⟨rfl, hb1⟩
  have hW1 := Calm.bt hX hb1
  have HA1 := HA0.kept hb1
  have HB1 := HB0.kept hb1
  clear HA0 HB0 hX hb1
  have HS1 : Calm.Has (w1.alloc (.cells #[.string lb, .string (lowerB ha ta hb tb), .bool (ta && tb)] 31)) w1.heap.size #[.string lb, .string (lowerB ha ta hb tb), .bool (ta && tb)] 31 := Calm.Has.new _ _ _
  have HA2 := HA1.alloc (.cells #[.string lb, .string (lowerB ha ta hb tb), .bool (ta && tb)] 31)
  have HB2 := HB1.alloc (.cells #[.string lb, .string (lowerB ha ta hb tb), .bool (ta && tb)] 31)
  have hW2 := Calm.ba hW1 (.cells #[.string lb, .string (lowerB ha ta hb tb), .bool (ta && tb)] 31)
  clear hW1
  have l0 := HA1.lt
  have l1 := HB1.lt
  have a0 := HA1.cell 0
  have a1 := HA1.cell 1
  have a2 := HA1.cell 2
  go_wp2_with fail
  clear a0 a1 a2 HA1 HB1 l0 l1
  generalize hx : w1.alloc _ = x1 at *
  clear hx
  have hsl : w1.heap.size < x1.heap.size := HS1.lt
  generalize w1.heap.size = sb at *
  refine (c1 _).out.mono ?_
  rintro e w2 ⟨rfl, hb2⟩
  have HA3 := HA2.kept hb2
  have HB3 := HB2.kept hb2
  have HS3 := HS1.kept hb2
  have hW3 := Calm.bt hW2 hb2
  clear HA2 HB2 HS1 hW2 hb2 hsl
  have a0 := HA3.cell 0
  have a1 := HA3.cell 1
  have a2 := HA3.cell 2
  have b0 := HB3.cell 0
  have b1 := HB3.cell 1
  have b2 := HB3.cell 2
  have s0 := HS3.cell 0
  have s1 := HS3.cell 1
  have s2 := HS3.cell 2
  go_wp2_with fail
  refine (c2 _).out.mono ?_
  rintro e w3 ⟨rfl, hb3⟩
  clear a0 a1 a2 b0 b1 b2 s0 s1 s2
  have HA4 := HA3.kept hb3
  have HB4 := HB3.kept hb3
  have HS4 := HS3.kept hb3
  have hW4 := Calm.bt hW3 hb3
  clear HA3 HB3 HS3 hW3 hb3
  have a0 := HA4.cell 0
  have a1 := HA4.cell 1
  have a2 := HA4.cell 2
  have b0 := HB4.cell 0
  have b1 := HB4.cell 1
  have b2 := HB4.cell 2
  have s0 := HS4.cell 0
  have s1 := HS4.cell 1
  have s2 := HS4.cell 2
  go_wp2_with fail
  refine (RCompare_any _ _ _ hsa).mono ?_
  rintro e w2 ⟨rfl, nd, rfl⟩
  clear a0 a1 a2 b0 b1 b2 s0 s1 s2
  have HA5 := HA4.drewN nd
  have HB5 := HB4.drewN nd
  have HS5 := HS4.drewN nd
  have hW5 := Calm.bd hW4 nd
  clear HA4 HB4 HS4 hW4
  generalize hxd : World.drewN _ nd = xd at *
  clear hxd
  have a0 := HA5.cell 0
  have a1 := HA5.cell 1
  have a2 := HA5.cell 2
  have b0 := HB5.cell 0
  have b1 := HB5.cell 1
  have b2 := HB5.cell 2
  have s0 := HS5.cell 0
  have s1 := HS5.cell 1
  have s2 := HS5.cell 2
  go_wp2_with fail
  refine (c3 _).out.mono ?_
  rintro e w5 ⟨rfl, hb5⟩
  clear a0 a1 a2 b0 b1 b2 s0 s1 s2
  have HA6 := HA5.kept hb5
  have HB6 := HB5.kept hb5
  have HS6 := HS5.kept hb5
  have hW6 := Calm.bt hW5 hb5
  clear HA5 HB5 HS5 hW5 hb5
  have a0 := HA6.cell 0
  have a1 := HA6.cell 1
  have a2 := HA6.cell 2
  have b0 := HB6.cell 0
  have b1 := HB6.cell 1
  have b2 := HB6.cell 2
  have s0 := HS6.cell 0
  have s1 := HS6.cell 1
  have s2 := HS6.cell 2
  go_wp2_with fail
  refine (c4 _).out.mono ?_
  rintro e w6 ⟨rfl, hb6⟩
  clear a0 a1 a2 b0 b1 b2 s0 s1 s2
  have HA7 := HA6.kept hb6
  have HB7 := HB6.kept hb6
  have HS7 := HS6.kept hb6
  have hW7 := Calm.bt hW6 hb6
  clear HA6 HB6 HS6 hW6 hb6
  have a0 := HA7.cell 0
  have a1 := HA7.cell 1
  have a2 := HA7.cell 2
  have b0 := HB7.cell 0
  have b1 := HB7.cell 1
  have b2 := HB7.cell 2
  have s0 := HS7.cell 0
  have s1 := HS7.cell 1
  have s2 := HS7.cell 2
  go_wp2_with fail
  refine (c5 _).out.mono ?_
  rintro e w7 ⟨rfl, hb7⟩
  clear a0 a1 a2 b0 b1 b2 s0 s1 s2
  have HA8 := HA7.kept hb7
  have HB8 := HB7.kept hb7
  have HS8 := HS7.kept hb7
  have hW8 := Calm.bt hW7 hb7
  clear HA7 HB7 HS7 hW7 hb7
  have a0 := HA8.cell 0
  have a1 := HA8.cell 1
  have a2 := HA8.cell 2
  have b0 := HB8.cell 0
  have b1 := HB8.cell 1
  have b2 := HB8.cell 2
  have s0 := HS8.cell 0
  have s1 := HS8.cell 1
  have s2 := HS8.cell 2
  cases ta <;> cases tb
  case true.true =>
    have htt : lowerB ha true hb true = ⟨#[]⟩ := rfl
    go_wp2_with fail
    refine (awake_any _).mono ?_
    rintro e w9 ⟨rfl, hb9⟩
    go_wp2_with fail
    go_ret
    exact ⟨rfl, Calm.bt hW8 hb9⟩
  all_goals
    go_wp2_with fail
    refine (awake_any _).mono ?_
    rintro e w9 ⟨rfl, hb9⟩
    go_wp2_with fail
    go_ret
    exact ⟨rfl, Calm.bt hW8 hb9⟩

set_option maxHeartbeats 4000000 in
set_option maxRecDepth 100000 in
theorem LexMeets_n101 (la ha : ByteArray) (ta : Bool) (lb hb : ByteArray) (tb : Bool) (key : ByteArray) (w : World)
    (hl : longB [la, ha, lb, hb, key] = false) (hsa : la.size ≤ maxLen) (hsb : lb.size ≤ maxLen) (hsk : key.size ≤ maxLen)
    (hc : cmpB la lb < 0) (he : emptyB lb (lowerB ha ta hb tb) (ta && tb) = true) (hv : inB la ha ta key = false) (hi : inB la ha ta lb = true) :
    Calls Try.prog 6 #[spanV la ha ta, spanV lb hb tb, .string key] w fun e w' => e = .returned (.bool true) ∧ Below w.heap.size w w' := by
  have hm : maxB la lb = lb := by unfold maxB; rw [if_pos hc]
  have he2 := he
  rw [← hm] at he2
  have hn := meet_none he2 key
  rw [hv] at hn
  have hn2 := meet_none he2 lb
  rw [hi] at hn2
  have hi2 : inB lb hb tb lb = false := by simpa using hn2
  have HM := fun w => Lib.hid (Meet_none he2 w)
  clear hn hn2
  have HL := Lib.hid hl
  have hc' : decide (cmpB la lb < 0) = true := by simpa using hc
  have c1 := fun w => Lib.hid (RIn_is hv hsa hsk w)
  have c3 := fun w => Lib.hid (RIn_is hi hsa (by assumption) w)
  have c4 := fun w => Lib.hid (RIn_is hi2 hsb (by assumption) w)
  clear hl he he2 hm hv hi hc hi2
  go_enter Try.func6, Try.ntmps6
  go_wp2_with fail
  refine (long_any [la, ha, lb, hb, key] _ _ (by simp) ?_).mono ?_
  · intro j hj
    match j, hj with
    | 0, _ => simp [go_sem]
    | 1, _ => simp [go_sem]
    | 2, _ => simp [go_sem]
    | 3, _ => simp [go_sem]
    | 4, _ => simp [go_sem]
  rintro e w1 ⟨rfl, rfl⟩
  rw [HL.out]
  go_wp2_with fail
  refine (HM _).out.mono ?_
  have HA0 : Calm.Has (((w.alloc (.cells #[.string la, .string ha, .bool ta] 31)).alloc (.cells #[.string lb, .string hb, .bool tb] 31)).alloc (.cells #[.string la, .string ha, .string lb, .string hb, .string key] 9)) w.heap.size #[.string la, .string ha, .bool ta] 31 := ((Calm.Has.new _ _ _).alloc _).alloc _
  have HB0 : Calm.Has (((w.alloc (.cells #[.string la, .string ha, .bool ta] 31)).alloc (.cells #[.string lb, .string hb, .bool tb] 31)).alloc (.cells #[.string la, .string ha, .string lb, .string hb, .string key] 9)) (w.heap.size + 1) #[.string lb, .string hb, .bool tb] 31 := by
    have h := (Calm.Has.new (w.alloc (.cells #[.string la, .string ha, .bool ta] 31)) #[.string lb, .string hb, .bool tb] 31).alloc (.cells #[.string la, .string ha, .string lb, .string hb, .string key] 9)
    simpa using h
  have hX := Calm.ba (Calm.ba (Calm.ba (Calm.br w) (.cells #[.string la, .string ha, .bool ta] 31)) (.cells #[.string lb, .string hb, .bool tb] 31)) (.cells #[.string la, .string ha, .string lb, .string hb, .string key] 9)
  rintro e w1 ⟨rfl, hb1⟩
  have hW1 := Calm.bt hX hb1
  have HA1 := HA0.kept hb1
  have HB1 := HB0.kept hb1
  clear HA0 HB0 hX hb1
  have HS1 : Calm.Has (w1.alloc (.cells #[.string ⟨#[]⟩, .string ⟨#[]⟩, .bool false] 31)) w1.heap.size #[.string ⟨#[]⟩, .string ⟨#[]⟩, .bool false] 31 := Calm.Has.new _ _ _
  have HA2 := HA1.alloc (.cells #[.string ⟨#[]⟩, .string ⟨#[]⟩, .bool false] 31)
  have HB2 := HB1.alloc (.cells #[.string ⟨#[]⟩, .string ⟨#[]⟩, .bool false] 31)
  have hW2 := Calm.ba hW1 (.cells #[.string ⟨#[]⟩, .string ⟨#[]⟩, .bool false] 31)
  clear hW1
  have l0 := HA1.lt
  have l1 := HB1.lt
  have a0 := HA1.cell 0
  have a1 := HA1.cell 1
  have a2 := HA1.cell 2
  go_wp2_with fail
  clear a0 a1 a2 HA1 HB1 l0 l1
  generalize hx : w1.alloc _ = x1 at *
  clear hx
  have hsl : w1.heap.size < x1.heap.size := HS1.lt
  generalize w1.heap.size = sb at *
  refine (c1 _).out.mono ?_
  rintro e w2 ⟨rfl, hb2⟩
  have HA3 := HA2.kept hb2
  have HB3 := HB2.kept hb2
  have HS3 := HS1.kept hb2
  have hW3 := Calm.bt hW2 hb2
  clear HA2 HB2 HS1 hW2 hb2 hsl
  have a0 := HA3.cell 0
  have a1 := HA3.cell 1
  have a2 := HA3.cell 2
  have b0 := HB3.cell 0
  have b1 := HB3.cell 1
  have b2 := HB3.cell 2
  have s0 := HS3.cell 0
  have s1 := HS3.cell 1
  have s2 := HS3.cell 2
  go_wp2_with fail
  refine (RCompare_any _ _ _ hsa).mono ?_
  rintro e w2 ⟨rfl, nd, rfl⟩
  clear a0 a1 a2 b0 b1 b2 s0 s1 s2
  have HA4 := HA3.drewN nd
  have HB4 := HB3.drewN nd
  have HS4 := HS3.drewN nd
  have hW4 := Calm.bd hW3 nd
  clear HA3 HB3 HS3 hW3
  generalize hxd : World.drewN _ nd = xd at *
  clear hxd
  have a0 := HA4.cell 0
  have a1 := HA4.cell 1
  have a2 := HA4.cell 2
  have b0 := HB4.cell 0
  have b1 := HB4.cell 1
  have b2 := HB4.cell 2
  have s0 := HS4.cell 0
  have s1 := HS4.cell 1
  have s2 := HS4.cell 2
  go_wp2_with fail
  refine (c3 _).out.mono ?_
  rintro e w4 ⟨rfl, hb4⟩
  clear a0 a1 a2 b0 b1 b2 s0 s1 s2
  have HA5 := HA4.kept hb4
  have HB5 := HB4.kept hb4
  have HS5 := HS4.kept hb4
  have hW5 := Calm.bt hW4 hb4
  clear HA4 HB4 HS4 hW4 hb4
  have a0 := HA5.cell 0
  have a1 := HA5.cell 1
  have a2 := HA5.cell 2
  have b0 := HB5.cell 0
  have b1 := HB5.cell 1
  have b2 := HB5.cell 2
  have s0 := HS5.cell 0
  have s1 := HS5.cell 1
  have s2 := HS5.cell 2
  go_wp2_with fail
  refine (c4 _).out.mono ?_
  rintro e w5 ⟨rfl, hb5⟩
  clear a0 a1 a2 b0 b1 b2 s0 s1 s2
  have HA6 := HA5.kept hb5
  have HB6 := HB5.kept hb5
  have HS6 := HS5.kept hb5
  have hW6 := Calm.bt hW5 hb5
  clear HA5 HB5 HS5 hW5 hb5
  have a0 := HA6.cell 0
  have a1 := HA6.cell 1
  have a2 := HA6.cell 2
  have b0 := HB6.cell 0
  have b1 := HB6.cell 1
  have b2 := HB6.cell 2
  have s0 := HS6.cell 0
  have s1 := HS6.cell 1
  have s2 := HS6.cell 2
  go_wp2_with fail
  refine (awake_any _).mono ?_
  rintro e w9 ⟨rfl, hb9⟩
  go_wp2_with fail
  go_ret
  exact ⟨rfl, Calm.bt hW6 hb9⟩

set_option maxHeartbeats 4000000 in
set_option maxRecDepth 100000 in
theorem LexMeets_n100 (la ha : ByteArray) (ta : Bool) (lb hb : ByteArray) (tb : Bool) (key : ByteArray) (w : World)
    (hl : longB [la, ha, lb, hb, key] = false) (hsa : la.size ≤ maxLen) (hsb : lb.size ≤ maxLen) (hsk : key.size ≤ maxLen)
    (hc : cmpB la lb < 0) (he : emptyB lb (lowerB ha ta hb tb) (ta && tb) = true) (hv : inB la ha ta key = false) (hi : inB la ha ta lb = false) :
    Calls Try.prog 6 #[spanV la ha ta, spanV lb hb tb, .string key] w fun e w' => e = .returned (.bool true) ∧ Below w.heap.size w w' := by
  have hm : maxB la lb = lb := by unfold maxB; rw [if_pos hc]
  have he2 := he
  rw [← hm] at he2
  have hn := meet_none he2 key
  rw [hv] at hn
  have hn2 := meet_none he2 lb
  rw [hi] at hn2
  have HM := fun w => Lib.hid (Meet_none he2 w)
  clear hn hn2
  have HL := Lib.hid hl
  have hc' : decide (cmpB la lb < 0) = true := by simpa using hc
  have c1 := fun w => Lib.hid (RIn_is hv hsa hsk w)
  have c3 := fun w => Lib.hid (RIn_is hi hsa (by assumption) w)
  clear hl he he2 hm hv hi hc
  go_enter Try.func6, Try.ntmps6
  go_wp2_with fail
  refine (long_any [la, ha, lb, hb, key] _ _ (by simp) ?_).mono ?_
  · intro j hj
    match j, hj with
    | 0, _ => simp [go_sem]
    | 1, _ => simp [go_sem]
    | 2, _ => simp [go_sem]
    | 3, _ => simp [go_sem]
    | 4, _ => simp [go_sem]
  rintro e w1 ⟨rfl, rfl⟩
  rw [HL.out]
  go_wp2_with fail
  refine (HM _).out.mono ?_
  have HA0 : Calm.Has (((w.alloc (.cells #[.string la, .string ha, .bool ta] 31)).alloc (.cells #[.string lb, .string hb, .bool tb] 31)).alloc (.cells #[.string la, .string ha, .string lb, .string hb, .string key] 9)) w.heap.size #[.string la, .string ha, .bool ta] 31 := ((Calm.Has.new _ _ _).alloc _).alloc _
  have HB0 : Calm.Has (((w.alloc (.cells #[.string la, .string ha, .bool ta] 31)).alloc (.cells #[.string lb, .string hb, .bool tb] 31)).alloc (.cells #[.string la, .string ha, .string lb, .string hb, .string key] 9)) (w.heap.size + 1) #[.string lb, .string hb, .bool tb] 31 := by
    have h := (Calm.Has.new (w.alloc (.cells #[.string la, .string ha, .bool ta] 31)) #[.string lb, .string hb, .bool tb] 31).alloc (.cells #[.string la, .string ha, .string lb, .string hb, .string key] 9)
    simpa using h
  have hX := Calm.ba (Calm.ba (Calm.ba (Calm.br w) (.cells #[.string la, .string ha, .bool ta] 31)) (.cells #[.string lb, .string hb, .bool tb] 31)) (.cells #[.string la, .string ha, .string lb, .string hb, .string key] 9)
  rintro e w1 ⟨rfl, hb1⟩
  have hW1 := Calm.bt hX hb1
  have HA1 := HA0.kept hb1
  have HB1 := HB0.kept hb1
  clear HA0 HB0 hX hb1
  have HS1 : Calm.Has (w1.alloc (.cells #[.string ⟨#[]⟩, .string ⟨#[]⟩, .bool false] 31)) w1.heap.size #[.string ⟨#[]⟩, .string ⟨#[]⟩, .bool false] 31 := Calm.Has.new _ _ _
  have HA2 := HA1.alloc (.cells #[.string ⟨#[]⟩, .string ⟨#[]⟩, .bool false] 31)
  have HB2 := HB1.alloc (.cells #[.string ⟨#[]⟩, .string ⟨#[]⟩, .bool false] 31)
  have hW2 := Calm.ba hW1 (.cells #[.string ⟨#[]⟩, .string ⟨#[]⟩, .bool false] 31)
  clear hW1
  have l0 := HA1.lt
  have l1 := HB1.lt
  have a0 := HA1.cell 0
  have a1 := HA1.cell 1
  have a2 := HA1.cell 2
  go_wp2_with fail
  clear a0 a1 a2 HA1 HB1 l0 l1
  generalize hx : w1.alloc _ = x1 at *
  clear hx
  have hsl : w1.heap.size < x1.heap.size := HS1.lt
  generalize w1.heap.size = sb at *
  refine (c1 _).out.mono ?_
  rintro e w2 ⟨rfl, hb2⟩
  have HA3 := HA2.kept hb2
  have HB3 := HB2.kept hb2
  have HS3 := HS1.kept hb2
  have hW3 := Calm.bt hW2 hb2
  clear HA2 HB2 HS1 hW2 hb2 hsl
  have a0 := HA3.cell 0
  have a1 := HA3.cell 1
  have a2 := HA3.cell 2
  have b0 := HB3.cell 0
  have b1 := HB3.cell 1
  have b2 := HB3.cell 2
  have s0 := HS3.cell 0
  have s1 := HS3.cell 1
  have s2 := HS3.cell 2
  go_wp2_with fail
  refine (RCompare_any _ _ _ hsa).mono ?_
  rintro e w2 ⟨rfl, nd, rfl⟩
  clear a0 a1 a2 b0 b1 b2 s0 s1 s2
  have HA4 := HA3.drewN nd
  have HB4 := HB3.drewN nd
  have HS4 := HS3.drewN nd
  have hW4 := Calm.bd hW3 nd
  clear HA3 HB3 HS3 hW3
  generalize hxd : World.drewN _ nd = xd at *
  clear hxd
  have a0 := HA4.cell 0
  have a1 := HA4.cell 1
  have a2 := HA4.cell 2
  have b0 := HB4.cell 0
  have b1 := HB4.cell 1
  have b2 := HB4.cell 2
  have s0 := HS4.cell 0
  have s1 := HS4.cell 1
  have s2 := HS4.cell 2
  go_wp2_with fail
  refine (c3 _).out.mono ?_
  rintro e w4 ⟨rfl, hb4⟩
  clear a0 a1 a2 b0 b1 b2 s0 s1 s2
  have HA5 := HA4.kept hb4
  have HB5 := HB4.kept hb4
  have HS5 := HS4.kept hb4
  have hW5 := Calm.bt hW4 hb4
  clear HA4 HB4 HS4 hW4 hb4
  have a0 := HA5.cell 0
  have a1 := HA5.cell 1
  have a2 := HA5.cell 2
  have b0 := HB5.cell 0
  have b1 := HB5.cell 1
  have b2 := HB5.cell 2
  have s0 := HS5.cell 0
  have s1 := HS5.cell 1
  have s2 := HS5.cell 2
  go_wp2_with fail
  refine (awake_any _).mono ?_
  rintro e w9 ⟨rfl, hb9⟩
  go_wp2_with fail
  go_ret
  exact ⟨rfl, Calm.bt hW5 hb9⟩

set_option maxHeartbeats 4000000 in
set_option maxRecDepth 100000 in
theorem LexMeets_s10 (la ha : ByteArray) (ta : Bool) (lb hb : ByteArray) (tb : Bool) (key : ByteArray) (w : World)
    (hl : longB [la, ha, lb, hb, key] = false) (hsa : la.size ≤ maxLen) (hsb : lb.size ≤ maxLen) (hsk : key.size ≤ maxLen)
    (hc : cmpB la lb < 0) (he : emptyB lb (lowerB ha ta hb tb) (ta && tb) = false) (hv : inB la ha ta key = false) :
    Calls Try.prog 6 #[spanV la ha ta, spanV lb hb tb, .string key] w fun e w' => e = .returned (.bool true) ∧ Below w.heap.size w w' := by
  have hm : maxB la lb = lb := by unfold maxB; rw [if_pos hc]
  have he2 := he
  rw [← hm] at he2
  have hi : inB la ha ta lb = true ∧ inB lb hb tb lb = true := by
    have h := meet_some la ha ta lb hb tb
    rw [hm, he] at h; simpa using h.symm
  obtain ⟨hi, hi2⟩ := hi
  have hmk : inB lb (lowerB ha ta hb tb) (ta && tb) key = false := by
    have h := meet_in la ha ta lb hb tb key
    rw [hm, hv] at h; simpa using h
  have HM := fun w => Lib.hid (Meet_some he2 w)
  rw [hm] at HM
  have hslo : lb.size ≤ maxLen := by assumption
  have HL := Lib.hid hl
  have hc' : decide (cmpB la lb < 0) = true := by simpa using hc
  have c1 := fun w => Lib.hid (RIn_is hv hsa hsk w)
  have c3 := fun w => Lib.hid (RIn_is hi hsa (by assumption) w)
  have c4 := fun w => Lib.hid (RIn_is hi2 hsb (by assumption) w)
  have c5 := fun w => Lib.hid (RIn_is hmk hslo hsk w)
  clear hl he he2 hm hv hi hc hi2 hmk
  go_enter Try.func6, Try.ntmps6
  go_wp2_with fail
  refine (long_any [la, ha, lb, hb, key] _ _ (by simp) ?_).mono ?_
  · intro j hj
    match j, hj with
    | 0, _ => simp [go_sem]
    | 1, _ => simp [go_sem]
    | 2, _ => simp [go_sem]
    | 3, _ => simp [go_sem]
    | 4, _ => simp [go_sem]
  rintro e w1 ⟨rfl, rfl⟩
  rw [HL.out]
  go_wp2_with fail
  refine (HM _).out.mono ?_
  have HA0 : Calm.Has (((w.alloc (.cells #[.string la, .string ha, .bool ta] 31)).alloc (.cells #[.string lb, .string hb, .bool tb] 31)).alloc (.cells #[.string la, .string ha, .string lb, .string hb, .string key] 9)) w.heap.size #[.string la, .string ha, .bool ta] 31 := ((Calm.Has.new _ _ _).alloc _).alloc _
  have HB0 : Calm.Has (((w.alloc (.cells #[.string la, .string ha, .bool ta] 31)).alloc (.cells #[.string lb, .string hb, .bool tb] 31)).alloc (.cells #[.string la, .string ha, .string lb, .string hb, .string key] 9)) (w.heap.size + 1) #[.string lb, .string hb, .bool tb] 31 := by
    have h := (Calm.Has.new (w.alloc (.cells #[.string la, .string ha, .bool ta] 31)) #[.string lb, .string hb, .bool tb] 31).alloc (.cells #[.string la, .string ha, .string lb, .string hb, .string key] 9)
    simpa using h
  have hX := Calm.ba (Calm.ba (Calm.ba (Calm.br w) (.cells #[.string la, .string ha, .bool ta] 31)) (.cells #[.string lb, .string hb, .bool tb] 31)) (.cells #[.string la, .string ha, .string lb, .string hb, .string key] 9)
  rintro e w1 ⟨rfl, hb1⟩
  have hW1 := Calm.bt hX hb1
  have HA1 := HA0.kept hb1
  have HB1 := HB0.kept hb1
  clear HA0 HB0 hX hb1
  have HS1 : Calm.Has (w1.alloc (.cells #[.string lb, .string (lowerB ha ta hb tb), .bool (ta && tb)] 31)) w1.heap.size #[.string lb, .string (lowerB ha ta hb tb), .bool (ta && tb)] 31 := Calm.Has.new _ _ _
  have HA2 := HA1.alloc (.cells #[.string lb, .string (lowerB ha ta hb tb), .bool (ta && tb)] 31)
  have HB2 := HB1.alloc (.cells #[.string lb, .string (lowerB ha ta hb tb), .bool (ta && tb)] 31)
  have hW2 := Calm.ba hW1 (.cells #[.string lb, .string (lowerB ha ta hb tb), .bool (ta && tb)] 31)
  clear hW1
  have l0 := HA1.lt
  have l1 := HB1.lt
  have a0 := HA1.cell 0
  have a1 := HA1.cell 1
  have a2 := HA1.cell 2
  go_wp2_with fail
  clear a0 a1 a2 HA1 HB1 l0 l1
  generalize hx : w1.alloc _ = x1 at *
  clear hx
  have hsl : w1.heap.size < x1.heap.size := HS1.lt
  generalize w1.heap.size = sb at *
  refine (c1 _).out.mono ?_
  rintro e w2 ⟨rfl, hb2⟩
  have HA3 := HA2.kept hb2
  have HB3 := HB2.kept hb2
  have HS3 := HS1.kept hb2
  have hW3 := Calm.bt hW2 hb2
  clear HA2 HB2 HS1 hW2 hb2 hsl
  have a0 := HA3.cell 0
  have a1 := HA3.cell 1
  have a2 := HA3.cell 2
  have b0 := HB3.cell 0
  have b1 := HB3.cell 1
  have b2 := HB3.cell 2
  have s0 := HS3.cell 0
  have s1 := HS3.cell 1
  have s2 := HS3.cell 2
  go_wp2_with fail
  refine (RCompare_any _ _ _ hsa).mono ?_
  rintro e w2 ⟨rfl, nd, rfl⟩
  clear a0 a1 a2 b0 b1 b2 s0 s1 s2
  have HA4 := HA3.drewN nd
  have HB4 := HB3.drewN nd
  have HS4 := HS3.drewN nd
  have hW4 := Calm.bd hW3 nd
  clear HA3 HB3 HS3 hW3
  generalize hxd : World.drewN _ nd = xd at *
  clear hxd
  have a0 := HA4.cell 0
  have a1 := HA4.cell 1
  have a2 := HA4.cell 2
  have b0 := HB4.cell 0
  have b1 := HB4.cell 1
  have b2 := HB4.cell 2
  have s0 := HS4.cell 0
  have s1 := HS4.cell 1
  have s2 := HS4.cell 2
  go_wp2_with fail
  refine (c3 _).out.mono ?_
  rintro e w4 ⟨rfl, hb4⟩
  clear a0 a1 a2 b0 b1 b2 s0 s1 s2
  have HA5 := HA4.kept hb4
  have HB5 := HB4.kept hb4
  have HS5 := HS4.kept hb4
  have hW5 := Calm.bt hW4 hb4
  clear HA4 HB4 HS4 hW4 hb4
  have a0 := HA5.cell 0
  have a1 := HA5.cell 1
  have a2 := HA5.cell 2
  have b0 := HB5.cell 0
  have b1 := HB5.cell 1
  have b2 := HB5.cell 2
  have s0 := HS5.cell 0
  have s1 := HS5.cell 1
  have s2 := HS5.cell 2
  go_wp2_with fail
  refine (c4 _).out.mono ?_
  rintro e w5 ⟨rfl, hb5⟩
  clear a0 a1 a2 b0 b1 b2 s0 s1 s2
  have HA6 := HA5.kept hb5
  have HB6 := HB5.kept hb5
  have HS6 := HS5.kept hb5
  have hW6 := Calm.bt hW5 hb5
  clear HA5 HB5 HS5 hW5 hb5
  have a0 := HA6.cell 0
  have a1 := HA6.cell 1
  have a2 := HA6.cell 2
  have b0 := HB6.cell 0
  have b1 := HB6.cell 1
  have b2 := HB6.cell 2
  have s0 := HS6.cell 0
  have s1 := HS6.cell 1
  have s2 := HS6.cell 2
  go_wp2_with fail
  refine (c5 _).out.mono ?_
  rintro e w6 ⟨rfl, hb6⟩
  clear a0 a1 a2 b0 b1 b2 s0 s1 s2
  have HA7 := HA6.kept hb6
  have HB7 := HB6.kept hb6
  have HS7 := HS6.kept hb6
  have hW7 := Calm.bt hW6 hb6
  clear HA6 HB6 HS6 hW6 hb6
  have a0 := HA7.cell 0
  have a1 := HA7.cell 1
  have a2 := HA7.cell 2
  have b0 := HB7.cell 0
  have b1 := HB7.cell 1
  have b2 := HB7.cell 2
  have s0 := HS7.cell 0
  have s1 := HS7.cell 1
  have s2 := HS7.cell 2
  cases ta <;> cases tb
  case true.true =>
    have htt : lowerB ha true hb true = ⟨#[]⟩ := rfl
    go_wp2_with fail
    refine (awake_any _).mono ?_
    rintro e w9 ⟨rfl, hb9⟩
    go_wp2_with fail
    go_ret
    exact ⟨rfl, Calm.bt hW7 hb9⟩
  all_goals
    go_wp2_with fail
    refine (awake_any _).mono ?_
    rintro e w9 ⟨rfl, hb9⟩
    go_wp2_with fail
    go_ret
    exact ⟨rfl, Calm.bt hW7 hb9⟩

set_option maxHeartbeats 4000000 in
set_option maxRecDepth 100000 in
theorem LexMeets_n011 (la ha : ByteArray) (ta : Bool) (lb hb : ByteArray) (tb : Bool) (key : ByteArray) (w : World)
    (hl : longB [la, ha, lb, hb, key] = false) (hsa : la.size ≤ maxLen) (hsb : lb.size ≤ maxLen) (hsk : key.size ≤ maxLen)
    (hc : ¬ cmpB la lb < 0) (he : emptyB la (lowerB ha ta hb tb) (ta && tb) = true) (hv : inB la ha ta key = true) (hi : inB la ha ta la = true) :
    Calls Try.prog 6 #[spanV la ha ta, spanV lb hb tb, .string key] w fun e w' => e = .returned (.bool true) ∧ Below w.heap.size w w' := by
  have hm : maxB la lb = la := by unfold maxB; rw [if_neg hc]
  have he2 := he
  rw [← hm] at he2
  have hn := meet_none he2 key
  rw [hv] at hn
  have hv2 : inB lb hb tb key = false := by simpa using hn
  have hn2 := meet_none he2 la
  rw [hi] at hn2
  have hi2 : inB lb hb tb la = false := by simpa using hn2
  have HM := fun w => Lib.hid (Meet_none he2 w)
  clear hn hn2
  have HL := Lib.hid hl
  have hc' : decide (cmpB la lb < 0) = false := by simpa using hc
  have c1 := fun w => Lib.hid (RIn_is hv hsa hsk w)
  have c2 := fun w => Lib.hid (RIn_is hv2 hsb hsk w)
  have c3 := fun w => Lib.hid (RIn_is hi hsa (by assumption) w)
  have c4 := fun w => Lib.hid (RIn_is hi2 hsb (by assumption) w)
  clear hl he he2 hm hv hi hc hv2 hi2
  go_enter Try.func6, Try.ntmps6
  go_wp2_with fail
  refine (long_any [la, ha, lb, hb, key] _ _ (by simp) ?_).mono ?_
  · intro j hj
    match j, hj with
    | 0, _ => simp [go_sem]
    | 1, _ => simp [go_sem]
    | 2, _ => simp [go_sem]
    | 3, _ => simp [go_sem]
    | 4, _ => simp [go_sem]
  rintro e w1 ⟨rfl, rfl⟩
  rw [HL.out]
  go_wp2_with fail
  refine (HM _).out.mono ?_
  have HA0 : Calm.Has (((w.alloc (.cells #[.string la, .string ha, .bool ta] 31)).alloc (.cells #[.string lb, .string hb, .bool tb] 31)).alloc (.cells #[.string la, .string ha, .string lb, .string hb, .string key] 9)) w.heap.size #[.string la, .string ha, .bool ta] 31 := ((Calm.Has.new _ _ _).alloc _).alloc _
  have HB0 : Calm.Has (((w.alloc (.cells #[.string la, .string ha, .bool ta] 31)).alloc (.cells #[.string lb, .string hb, .bool tb] 31)).alloc (.cells #[.string la, .string ha, .string lb, .string hb, .string key] 9)) (w.heap.size + 1) #[.string lb, .string hb, .bool tb] 31 := by
    have h := (Calm.Has.new (w.alloc (.cells #[.string la, .string ha, .bool ta] 31)) #[.string lb, .string hb, .bool tb] 31).alloc (.cells #[.string la, .string ha, .string lb, .string hb, .string key] 9)
    simpa using h
  have hX := Calm.ba (Calm.ba (Calm.ba (Calm.br w) (.cells #[.string la, .string ha, .bool ta] 31)) (.cells #[.string lb, .string hb, .bool tb] 31)) (.cells #[.string la, .string ha, .string lb, .string hb, .string key] 9)
  rintro e w1 ⟨rfl, hb1⟩
  have hW1 := Calm.bt hX hb1
  have HA1 := HA0.kept hb1
  have HB1 := HB0.kept hb1
  clear HA0 HB0 hX hb1
  have HS1 : Calm.Has (w1.alloc (.cells #[.string ⟨#[]⟩, .string ⟨#[]⟩, .bool false] 31)) w1.heap.size #[.string ⟨#[]⟩, .string ⟨#[]⟩, .bool false] 31 := Calm.Has.new _ _ _
  have HA2 := HA1.alloc (.cells #[.string ⟨#[]⟩, .string ⟨#[]⟩, .bool false] 31)
  have HB2 := HB1.alloc (.cells #[.string ⟨#[]⟩, .string ⟨#[]⟩, .bool false] 31)
  have hW2 := Calm.ba hW1 (.cells #[.string ⟨#[]⟩, .string ⟨#[]⟩, .bool false] 31)
  clear hW1
  have l0 := HA1.lt
  have l1 := HB1.lt
  have a0 := HA1.cell 0
  have a1 := HA1.cell 1
  have a2 := HA1.cell 2
  go_wp2_with fail
  clear a0 a1 a2 HA1 HB1 l0 l1
  generalize hx : w1.alloc _ = x1 at *
  clear hx
  have hsl : w1.heap.size < x1.heap.size := HS1.lt
  generalize w1.heap.size = sb at *
  refine (c1 _).out.mono ?_
  rintro e w2 ⟨rfl, hb2⟩
  have HA3 := HA2.kept hb2
  have HB3 := HB2.kept hb2
  have HS3 := HS1.kept hb2
  have hW3 := Calm.bt hW2 hb2
  clear HA2 HB2 HS1 hW2 hb2 hsl
  have a0 := HA3.cell 0
  have a1 := HA3.cell 1
  have a2 := HA3.cell 2
  have b0 := HB3.cell 0
  have b1 := HB3.cell 1
  have b2 := HB3.cell 2
  have s0 := HS3.cell 0
  have s1 := HS3.cell 1
  have s2 := HS3.cell 2
  go_wp2_with fail
  refine (c2 _).out.mono ?_
  rintro e w3 ⟨rfl, hb3⟩
  clear a0 a1 a2 b0 b1 b2 s0 s1 s2
  have HA4 := HA3.kept hb3
  have HB4 := HB3.kept hb3
  have HS4 := HS3.kept hb3
  have hW4 := Calm.bt hW3 hb3
  clear HA3 HB3 HS3 hW3 hb3
  have a0 := HA4.cell 0
  have a1 := HA4.cell 1
  have a2 := HA4.cell 2
  have b0 := HB4.cell 0
  have b1 := HB4.cell 1
  have b2 := HB4.cell 2
  have s0 := HS4.cell 0
  have s1 := HS4.cell 1
  have s2 := HS4.cell 2
  go_wp2_with fail
  refine (RCompare_any _ _ _ hsa).mono ?_
  rintro e w2 ⟨rfl, nd, rfl⟩
  clear a0 a1 a2 b0 b1 b2 s0 s1 s2
  have HA5 := HA4.drewN nd
  have HB5 := HB4.drewN nd
  have HS5 := HS4.drewN nd
  have hW5 := Calm.bd hW4 nd
  clear HA4 HB4 HS4 hW4
  generalize hxd : World.drewN _ nd = xd at *
  clear hxd
  have a0 := HA5.cell 0
  have a1 := HA5.cell 1
  have a2 := HA5.cell 2
  have b0 := HB5.cell 0
  have b1 := HB5.cell 1
  have b2 := HB5.cell 2
  have s0 := HS5.cell 0
  have s1 := HS5.cell 1
  have s2 := HS5.cell 2
  go_wp2_with fail
  refine (c3 _).out.mono ?_
  rintro e w5 ⟨rfl, hb5⟩
  clear a0 a1 a2 b0 b1 b2 s0 s1 s2
  have HA6 := HA5.kept hb5
  have HB6 := HB5.kept hb5
  have HS6 := HS5.kept hb5
  have hW6 := Calm.bt hW5 hb5
  clear HA5 HB5 HS5 hW5 hb5
  have a0 := HA6.cell 0
  have a1 := HA6.cell 1
  have a2 := HA6.cell 2
  have b0 := HB6.cell 0
  have b1 := HB6.cell 1
  have b2 := HB6.cell 2
  have s0 := HS6.cell 0
  have s1 := HS6.cell 1
  have s2 := HS6.cell 2
  go_wp2_with fail
  refine (c4 _).out.mono ?_
  rintro e w6 ⟨rfl, hb6⟩
  clear a0 a1 a2 b0 b1 b2 s0 s1 s2
  have HA7 := HA6.kept hb6
  have HB7 := HB6.kept hb6
  have HS7 := HS6.kept hb6
  have hW7 := Calm.bt hW6 hb6
  clear HA6 HB6 HS6 hW6 hb6
  have a0 := HA7.cell 0
  have a1 := HA7.cell 1
  have a2 := HA7.cell 2
  have b0 := HB7.cell 0
  have b1 := HB7.cell 1
  have b2 := HB7.cell 2
  have s0 := HS7.cell 0
  have s1 := HS7.cell 1
  have s2 := HS7.cell 2
  go_wp2_with fail
  refine (awake_any _).mono ?_
  rintro e w9 ⟨rfl, hb9⟩
  go_wp2_with fail
  go_ret
  exact ⟨rfl, Calm.bt hW7 hb9⟩

set_option maxHeartbeats 4000000 in
set_option maxRecDepth 100000 in
theorem LexMeets_n010 (la ha : ByteArray) (ta : Bool) (lb hb : ByteArray) (tb : Bool) (key : ByteArray) (w : World)
    (hl : longB [la, ha, lb, hb, key] = false) (hsa : la.size ≤ maxLen) (hsb : lb.size ≤ maxLen) (hsk : key.size ≤ maxLen)
    (hc : ¬ cmpB la lb < 0) (he : emptyB la (lowerB ha ta hb tb) (ta && tb) = true) (hv : inB la ha ta key = true) (hi : inB la ha ta la = false) :
    Calls Try.prog 6 #[spanV la ha ta, spanV lb hb tb, .string key] w fun e w' => e = .returned (.bool true) ∧ Below w.heap.size w w' := by
  have hm : maxB la lb = la := by unfold maxB; rw [if_neg hc]
  have he2 := he
  rw [← hm] at he2
  have hn := meet_none he2 key
  rw [hv] at hn
  have hv2 : inB lb hb tb key = false := by simpa using hn
  have hn2 := meet_none he2 la
  rw [hi] at hn2
  have HM := fun w => Lib.hid (Meet_none he2 w)
  clear hn hn2
  have HL := Lib.hid hl
  have hc' : decide (cmpB la lb < 0) = false := by simpa using hc
  have c1 := fun w => Lib.hid (RIn_is hv hsa hsk w)
  have c2 := fun w => Lib.hid (RIn_is hv2 hsb hsk w)
  have c3 := fun w => Lib.hid (RIn_is hi hsa (by assumption) w)
  clear hl he he2 hm hv hi hc hv2
  go_enter Try.func6, Try.ntmps6
  go_wp2_with fail
  refine (long_any [la, ha, lb, hb, key] _ _ (by simp) ?_).mono ?_
  · intro j hj
    match j, hj with
    | 0, _ => simp [go_sem]
    | 1, _ => simp [go_sem]
    | 2, _ => simp [go_sem]
    | 3, _ => simp [go_sem]
    | 4, _ => simp [go_sem]
  rintro e w1 ⟨rfl, rfl⟩
  rw [HL.out]
  go_wp2_with fail
  refine (HM _).out.mono ?_
  have HA0 : Calm.Has (((w.alloc (.cells #[.string la, .string ha, .bool ta] 31)).alloc (.cells #[.string lb, .string hb, .bool tb] 31)).alloc (.cells #[.string la, .string ha, .string lb, .string hb, .string key] 9)) w.heap.size #[.string la, .string ha, .bool ta] 31 := ((Calm.Has.new _ _ _).alloc _).alloc _
  have HB0 : Calm.Has (((w.alloc (.cells #[.string la, .string ha, .bool ta] 31)).alloc (.cells #[.string lb, .string hb, .bool tb] 31)).alloc (.cells #[.string la, .string ha, .string lb, .string hb, .string key] 9)) (w.heap.size + 1) #[.string lb, .string hb, .bool tb] 31 := by
    have h := (Calm.Has.new (w.alloc (.cells #[.string la, .string ha, .bool ta] 31)) #[.string lb, .string hb, .bool tb] 31).alloc (.cells #[.string la, .string ha, .string lb, .string hb, .string key] 9)
    simpa using h
  have hX := Calm.ba (Calm.ba (Calm.ba (Calm.br w) (.cells #[.string la, .string ha, .bool ta] 31)) (.cells #[.string lb, .string hb, .bool tb] 31)) (.cells #[.string la, .string ha, .string lb, .string hb, .string key] 9)
  rintro e w1 ⟨rfl, hb1⟩
  have hW1 := Calm.bt hX hb1
  have HA1 := HA0.kept hb1
  have HB1 := HB0.kept hb1
  clear HA0 HB0 hX hb1
  have HS1 : Calm.Has (w1.alloc (.cells #[.string ⟨#[]⟩, .string ⟨#[]⟩, .bool false] 31)) w1.heap.size #[.string ⟨#[]⟩, .string ⟨#[]⟩, .bool false] 31 := Calm.Has.new _ _ _
  have HA2 := HA1.alloc (.cells #[.string ⟨#[]⟩, .string ⟨#[]⟩, .bool false] 31)
  have HB2 := HB1.alloc (.cells #[.string ⟨#[]⟩, .string ⟨#[]⟩, .bool false] 31)
  have hW2 := Calm.ba hW1 (.cells #[.string ⟨#[]⟩, .string ⟨#[]⟩, .bool false] 31)
  clear hW1
  have l0 := HA1.lt
  have l1 := HB1.lt
  have a0 := HA1.cell 0
  have a1 := HA1.cell 1
  have a2 := HA1.cell 2
  go_wp2_with fail
  clear a0 a1 a2 HA1 HB1 l0 l1
  generalize hx : w1.alloc _ = x1 at *
  clear hx
  have hsl : w1.heap.size < x1.heap.size := HS1.lt
  generalize w1.heap.size = sb at *
  refine (c1 _).out.mono ?_
  rintro e w2 ⟨rfl, hb2⟩
  have HA3 := HA2.kept hb2
  have HB3 := HB2.kept hb2
  have HS3 := HS1.kept hb2
  have hW3 := Calm.bt hW2 hb2
  clear HA2 HB2 HS1 hW2 hb2 hsl
  have a0 := HA3.cell 0
  have a1 := HA3.cell 1
  have a2 := HA3.cell 2
  have b0 := HB3.cell 0
  have b1 := HB3.cell 1
  have b2 := HB3.cell 2
  have s0 := HS3.cell 0
  have s1 := HS3.cell 1
  have s2 := HS3.cell 2
  go_wp2_with fail
  refine (c2 _).out.mono ?_
  rintro e w3 ⟨rfl, hb3⟩
  clear a0 a1 a2 b0 b1 b2 s0 s1 s2
  have HA4 := HA3.kept hb3
  have HB4 := HB3.kept hb3
  have HS4 := HS3.kept hb3
  have hW4 := Calm.bt hW3 hb3
  clear HA3 HB3 HS3 hW3 hb3
  have a0 := HA4.cell 0
  have a1 := HA4.cell 1
  have a2 := HA4.cell 2
  have b0 := HB4.cell 0
  have b1 := HB4.cell 1
  have b2 := HB4.cell 2
  have s0 := HS4.cell 0
  have s1 := HS4.cell 1
  have s2 := HS4.cell 2
  go_wp2_with fail
  refine (RCompare_any _ _ _ hsa).mono ?_
  rintro e w2 ⟨rfl, nd, rfl⟩
  clear a0 a1 a2 b0 b1 b2 s0 s1 s2
  have HA5 := HA4.drewN nd
  have HB5 := HB4.drewN nd
  have HS5 := HS4.drewN nd
  have hW5 := Calm.bd hW4 nd
  clear HA4 HB4 HS4 hW4
  generalize hxd : World.drewN _ nd = xd at *
  clear hxd
  have a0 := HA5.cell 0
  have a1 := HA5.cell 1
  have a2 := HA5.cell 2
  have b0 := HB5.cell 0
  have b1 := HB5.cell 1
  have b2 := HB5.cell 2
  have s0 := HS5.cell 0
  have s1 := HS5.cell 1
  have s2 := HS5.cell 2
  go_wp2_with fail
  refine (c3 _).out.mono ?_
  rintro e w5 ⟨rfl, hb5⟩
  clear a0 a1 a2 b0 b1 b2 s0 s1 s2
  have HA6 := HA5.kept hb5
  have HB6 := HB5.kept hb5
  have HS6 := HS5.kept hb5
  have hW6 := Calm.bt hW5 hb5
  clear HA5 HB5 HS5 hW5 hb5
  have a0 := HA6.cell 0
  have a1 := HA6.cell 1
  have a2 := HA6.cell 2
  have b0 := HB6.cell 0
  have b1 := HB6.cell 1
  have b2 := HB6.cell 2
  have s0 := HS6.cell 0
  have s1 := HS6.cell 1
  have s2 := HS6.cell 2
  go_wp2_with fail
  refine (awake_any _).mono ?_
  rintro e w9 ⟨rfl, hb9⟩
  go_wp2_with fail
  go_ret
  exact ⟨rfl, Calm.bt hW6 hb9⟩

set_option maxHeartbeats 4000000 in
set_option maxRecDepth 100000 in
theorem LexMeets_s01 (la ha : ByteArray) (ta : Bool) (lb hb : ByteArray) (tb : Bool) (key : ByteArray) (w : World)
    (hl : longB [la, ha, lb, hb, key] = false) (hsa : la.size ≤ maxLen) (hsb : lb.size ≤ maxLen) (hsk : key.size ≤ maxLen)
    (hc : ¬ cmpB la lb < 0) (he : emptyB la (lowerB ha ta hb tb) (ta && tb) = false) (hv : inB la ha ta key = true) :
    Calls Try.prog 6 #[spanV la ha ta, spanV lb hb tb, .string key] w fun e w' => e = .returned (.bool true) ∧ Below w.heap.size w w' := by
  have hm : maxB la lb = la := by unfold maxB; rw [if_neg hc]
  have he2 := he
  rw [← hm] at he2
  have hi : inB la ha ta la = true ∧ inB lb hb tb la = true := by
    have h := meet_some la ha ta lb hb tb
    rw [hm, he] at h; simpa using h.symm
  obtain ⟨hi, hi2⟩ := hi
  obtain ⟨v2, hv2⟩ : ∃ v2, inB lb hb tb key = v2 := ⟨_, rfl⟩
  have hmk : inB la (lowerB ha ta hb tb) (ta && tb) key = v2 := by
    have h := meet_in la ha ta lb hb tb key
    rw [hm, hv, hv2] at h; simpa using h
  have HM := fun w => Lib.hid (Meet_some he2 w)
  rw [hm] at HM
  have hslo : la.size ≤ maxLen := by assumption
  have HL := Lib.hid hl
  have hc' : decide (cmpB la lb < 0) = false := by simpa using hc
  have c1 := fun w => Lib.hid (RIn_is hv hsa hsk w)
  have c2 := fun w => Lib.hid (RIn_is hv2 hsb hsk w)
  have c3 := fun w => Lib.hid (RIn_is hi hsa (by assumption) w)
  have c4 := fun w => Lib.hid (RIn_is hi2 hsb (by assumption) w)
  have c5 := fun w => Lib.hid (RIn_is hmk hslo hsk w)
  clear hl he he2 hm hv hi hc hv2 hi2 hmk
  go_enter Try.func6, Try.ntmps6
  go_wp2_with fail
  refine (long_any [la, ha, lb, hb, key] _ _ (by simp) ?_).mono ?_
  · intro j hj
    match j, hj with
    | 0, _ => simp [go_sem]
    | 1, _ => simp [go_sem]
    | 2, _ => simp [go_sem]
    | 3, _ => simp [go_sem]
    | 4, _ => simp [go_sem]
  rintro e w1 ⟨rfl, rfl⟩
  rw [HL.out]
  go_wp2_with fail
  refine (HM _).out.mono ?_
  have HA0 : Calm.Has (((w.alloc (.cells #[.string la, .string ha, .bool ta] 31)).alloc (.cells #[.string lb, .string hb, .bool tb] 31)).alloc (.cells #[.string la, .string ha, .string lb, .string hb, .string key] 9)) w.heap.size #[.string la, .string ha, .bool ta] 31 := ((Calm.Has.new _ _ _).alloc _).alloc _
  have HB0 : Calm.Has (((w.alloc (.cells #[.string la, .string ha, .bool ta] 31)).alloc (.cells #[.string lb, .string hb, .bool tb] 31)).alloc (.cells #[.string la, .string ha, .string lb, .string hb, .string key] 9)) (w.heap.size + 1) #[.string lb, .string hb, .bool tb] 31 := by
    have h := (Calm.Has.new (w.alloc (.cells #[.string la, .string ha, .bool ta] 31)) #[.string lb, .string hb, .bool tb] 31).alloc (.cells #[.string la, .string ha, .string lb, .string hb, .string key] 9)
    simpa using h
  have hX := Calm.ba (Calm.ba (Calm.ba (Calm.br w) (.cells #[.string la, .string ha, .bool ta] 31)) (.cells #[.string lb, .string hb, .bool tb] 31)) (.cells #[.string la, .string ha, .string lb, .string hb, .string key] 9)
  rintro e w1 ⟨rfl, hb1⟩
  have hW1 := Calm.bt hX hb1
  have HA1 := HA0.kept hb1
  have HB1 := HB0.kept hb1
  clear HA0 HB0 hX hb1
  have HS1 : Calm.Has (w1.alloc (.cells #[.string la, .string (lowerB ha ta hb tb), .bool (ta && tb)] 31)) w1.heap.size #[.string la, .string (lowerB ha ta hb tb), .bool (ta && tb)] 31 := Calm.Has.new _ _ _
  have HA2 := HA1.alloc (.cells #[.string la, .string (lowerB ha ta hb tb), .bool (ta && tb)] 31)
  have HB2 := HB1.alloc (.cells #[.string la, .string (lowerB ha ta hb tb), .bool (ta && tb)] 31)
  have hW2 := Calm.ba hW1 (.cells #[.string la, .string (lowerB ha ta hb tb), .bool (ta && tb)] 31)
  clear hW1
  have l0 := HA1.lt
  have l1 := HB1.lt
  have a0 := HA1.cell 0
  have a1 := HA1.cell 1
  have a2 := HA1.cell 2
  go_wp2_with fail
  clear a0 a1 a2 HA1 HB1 l0 l1
  generalize hx : w1.alloc _ = x1 at *
  clear hx
  have hsl : w1.heap.size < x1.heap.size := HS1.lt
  generalize w1.heap.size = sb at *
  refine (c1 _).out.mono ?_
  rintro e w2 ⟨rfl, hb2⟩
  have HA3 := HA2.kept hb2
  have HB3 := HB2.kept hb2
  have HS3 := HS1.kept hb2
  have hW3 := Calm.bt hW2 hb2
  clear HA2 HB2 HS1 hW2 hb2 hsl
  have a0 := HA3.cell 0
  have a1 := HA3.cell 1
  have a2 := HA3.cell 2
  have b0 := HB3.cell 0
  have b1 := HB3.cell 1
  have b2 := HB3.cell 2
  have s0 := HS3.cell 0
  have s1 := HS3.cell 1
  have s2 := HS3.cell 2
  go_wp2_with fail
  refine (c2 _).out.mono ?_
  rintro e w3 ⟨rfl, hb3⟩
  clear a0 a1 a2 b0 b1 b2 s0 s1 s2
  have HA4 := HA3.kept hb3
  have HB4 := HB3.kept hb3
  have HS4 := HS3.kept hb3
  have hW4 := Calm.bt hW3 hb3
  clear HA3 HB3 HS3 hW3 hb3
  have a0 := HA4.cell 0
  have a1 := HA4.cell 1
  have a2 := HA4.cell 2
  have b0 := HB4.cell 0
  have b1 := HB4.cell 1
  have b2 := HB4.cell 2
  have s0 := HS4.cell 0
  have s1 := HS4.cell 1
  have s2 := HS4.cell 2
  go_wp2_with fail
  refine (RCompare_any _ _ _ hsa).mono ?_
  rintro e w2 ⟨rfl, nd, rfl⟩
  clear a0 a1 a2 b0 b1 b2 s0 s1 s2
  have HA5 := HA4.drewN nd
  have HB5 := HB4.drewN nd
  have HS5 := HS4.drewN nd
  have hW5 := Calm.bd hW4 nd
  clear HA4 HB4 HS4 hW4
  generalize hxd : World.drewN _ nd = xd at *
  clear hxd
  have a0 := HA5.cell 0
  have a1 := HA5.cell 1
  have a2 := HA5.cell 2
  have b0 := HB5.cell 0
  have b1 := HB5.cell 1
  have b2 := HB5.cell 2
  have s0 := HS5.cell 0
  have s1 := HS5.cell 1
  have s2 := HS5.cell 2
  go_wp2_with fail
  refine (c3 _).out.mono ?_
  rintro e w5 ⟨rfl, hb5⟩
  clear a0 a1 a2 b0 b1 b2 s0 s1 s2
  have HA6 := HA5.kept hb5
  have HB6 := HB5.kept hb5
  have HS6 := HS5.kept hb5
  have hW6 := Calm.bt hW5 hb5
  clear HA5 HB5 HS5 hW5 hb5
  have a0 := HA6.cell 0
  have a1 := HA6.cell 1
  have a2 := HA6.cell 2
  have b0 := HB6.cell 0
  have b1 := HB6.cell 1
  have b2 := HB6.cell 2
  have s0 := HS6.cell 0
  have s1 := HS6.cell 1
  have s2 := HS6.cell 2
  go_wp2_with fail
  refine (c4 _).out.mono ?_
  rintro e w6 ⟨rfl, hb6⟩
  clear a0 a1 a2 b0 b1 b2 s0 s1 s2
  have HA7 := HA6.kept hb6
  have HB7 := HB6.kept hb6
  have HS7 := HS6.kept hb6
  have hW7 := Calm.bt hW6 hb6
  clear HA6 HB6 HS6 hW6 hb6
  have a0 := HA7.cell 0
  have a1 := HA7.cell 1
  have a2 := HA7.cell 2
  have b0 := HB7.cell 0
  have b1 := HB7.cell 1
  have b2 := HB7.cell 2
  have s0 := HS7.cell 0
  have s1 := HS7.cell 1
  have s2 := HS7.cell 2
  go_wp2_with fail
  refine (c5 _).out.mono ?_
  rintro e w7 ⟨rfl, hb7⟩
  clear a0 a1 a2 b0 b1 b2 s0 s1 s2
  have HA8 := HA7.kept hb7
  have HB8 := HB7.kept hb7
  have HS8 := HS7.kept hb7
  have hW8 := Calm.bt hW7 hb7
  clear HA7 HB7 HS7 hW7 hb7
  have a0 := HA8.cell 0
  have a1 := HA8.cell 1
  have a2 := HA8.cell 2
  have b0 := HB8.cell 0
  have b1 := HB8.cell 1
  have b2 := HB8.cell 2
  have s0 := HS8.cell 0
  have s1 := HS8.cell 1
  have s2 := HS8.cell 2
  cases ta <;> cases tb
  case true.true =>
    have htt : lowerB ha true hb true = ⟨#[]⟩ := rfl
    go_wp2_with fail
    refine (awake_any _).mono ?_
    rintro e w9 ⟨rfl, hb9⟩
    go_wp2_with fail
    go_ret
    exact ⟨rfl, Calm.bt hW8 hb9⟩
  all_goals
    go_wp2_with fail
    refine (awake_any _).mono ?_
    rintro e w9 ⟨rfl, hb9⟩
    go_wp2_with fail
    go_ret
    exact ⟨rfl, Calm.bt hW8 hb9⟩

set_option maxHeartbeats 4000000 in
set_option maxRecDepth 100000 in
theorem LexMeets_n001 (la ha : ByteArray) (ta : Bool) (lb hb : ByteArray) (tb : Bool) (key : ByteArray) (w : World)
    (hl : longB [la, ha, lb, hb, key] = false) (hsa : la.size ≤ maxLen) (hsb : lb.size ≤ maxLen) (hsk : key.size ≤ maxLen)
    (hc : ¬ cmpB la lb < 0) (he : emptyB la (lowerB ha ta hb tb) (ta && tb) = true) (hv : inB la ha ta key = false) (hi : inB la ha ta la = true) :
    Calls Try.prog 6 #[spanV la ha ta, spanV lb hb tb, .string key] w fun e w' => e = .returned (.bool true) ∧ Below w.heap.size w w' := by
  have hm : maxB la lb = la := by unfold maxB; rw [if_neg hc]
  have he2 := he
  rw [← hm] at he2
  have hn := meet_none he2 key
  rw [hv] at hn
  have hn2 := meet_none he2 la
  rw [hi] at hn2
  have hi2 : inB lb hb tb la = false := by simpa using hn2
  have HM := fun w => Lib.hid (Meet_none he2 w)
  clear hn hn2
  have HL := Lib.hid hl
  have hc' : decide (cmpB la lb < 0) = false := by simpa using hc
  have c1 := fun w => Lib.hid (RIn_is hv hsa hsk w)
  have c3 := fun w => Lib.hid (RIn_is hi hsa (by assumption) w)
  have c4 := fun w => Lib.hid (RIn_is hi2 hsb (by assumption) w)
  clear hl he he2 hm hv hi hc hi2
  go_enter Try.func6, Try.ntmps6
  go_wp2_with fail
  refine (long_any [la, ha, lb, hb, key] _ _ (by simp) ?_).mono ?_
  · intro j hj
    match j, hj with
    | 0, _ => simp [go_sem]
    | 1, _ => simp [go_sem]
    | 2, _ => simp [go_sem]
    | 3, _ => simp [go_sem]
    | 4, _ => simp [go_sem]
  rintro e w1 ⟨rfl, rfl⟩
  rw [HL.out]
  go_wp2_with fail
  refine (HM _).out.mono ?_
  have HA0 : Calm.Has (((w.alloc (.cells #[.string la, .string ha, .bool ta] 31)).alloc (.cells #[.string lb, .string hb, .bool tb] 31)).alloc (.cells #[.string la, .string ha, .string lb, .string hb, .string key] 9)) w.heap.size #[.string la, .string ha, .bool ta] 31 := ((Calm.Has.new _ _ _).alloc _).alloc _
  have HB0 : Calm.Has (((w.alloc (.cells #[.string la, .string ha, .bool ta] 31)).alloc (.cells #[.string lb, .string hb, .bool tb] 31)).alloc (.cells #[.string la, .string ha, .string lb, .string hb, .string key] 9)) (w.heap.size + 1) #[.string lb, .string hb, .bool tb] 31 := by
    have h := (Calm.Has.new (w.alloc (.cells #[.string la, .string ha, .bool ta] 31)) #[.string lb, .string hb, .bool tb] 31).alloc (.cells #[.string la, .string ha, .string lb, .string hb, .string key] 9)
    simpa using h
  have hX := Calm.ba (Calm.ba (Calm.ba (Calm.br w) (.cells #[.string la, .string ha, .bool ta] 31)) (.cells #[.string lb, .string hb, .bool tb] 31)) (.cells #[.string la, .string ha, .string lb, .string hb, .string key] 9)
  rintro e w1 ⟨rfl, hb1⟩
  have hW1 := Calm.bt hX hb1
  have HA1 := HA0.kept hb1
  have HB1 := HB0.kept hb1
  clear HA0 HB0 hX hb1
  have HS1 : Calm.Has (w1.alloc (.cells #[.string ⟨#[]⟩, .string ⟨#[]⟩, .bool false] 31)) w1.heap.size #[.string ⟨#[]⟩, .string ⟨#[]⟩, .bool false] 31 := Calm.Has.new _ _ _
  have HA2 := HA1.alloc (.cells #[.string ⟨#[]⟩, .string ⟨#[]⟩, .bool false] 31)
  have HB2 := HB1.alloc (.cells #[.string ⟨#[]⟩, .string ⟨#[]⟩, .bool false] 31)
  have hW2 := Calm.ba hW1 (.cells #[.string ⟨#[]⟩, .string ⟨#[]⟩, .bool false] 31)
  clear hW1
  have l0 := HA1.lt
  have l1 := HB1.lt
  have a0 := HA1.cell 0
  have a1 := HA1.cell 1
  have a2 := HA1.cell 2
  go_wp2_with fail
  clear a0 a1 a2 HA1 HB1 l0 l1
  generalize hx : w1.alloc _ = x1 at *
  clear hx
  have hsl : w1.heap.size < x1.heap.size := HS1.lt
  generalize w1.heap.size = sb at *
  refine (c1 _).out.mono ?_
  rintro e w2 ⟨rfl, hb2⟩
  have HA3 := HA2.kept hb2
  have HB3 := HB2.kept hb2
  have HS3 := HS1.kept hb2
  have hW3 := Calm.bt hW2 hb2
  clear HA2 HB2 HS1 hW2 hb2 hsl
  have a0 := HA3.cell 0
  have a1 := HA3.cell 1
  have a2 := HA3.cell 2
  have b0 := HB3.cell 0
  have b1 := HB3.cell 1
  have b2 := HB3.cell 2
  have s0 := HS3.cell 0
  have s1 := HS3.cell 1
  have s2 := HS3.cell 2
  go_wp2_with fail
  refine (RCompare_any _ _ _ hsa).mono ?_
  rintro e w2 ⟨rfl, nd, rfl⟩
  clear a0 a1 a2 b0 b1 b2 s0 s1 s2
  have HA4 := HA3.drewN nd
  have HB4 := HB3.drewN nd
  have HS4 := HS3.drewN nd
  have hW4 := Calm.bd hW3 nd
  clear HA3 HB3 HS3 hW3
  generalize hxd : World.drewN _ nd = xd at *
  clear hxd
  have a0 := HA4.cell 0
  have a1 := HA4.cell 1
  have a2 := HA4.cell 2
  have b0 := HB4.cell 0
  have b1 := HB4.cell 1
  have b2 := HB4.cell 2
  have s0 := HS4.cell 0
  have s1 := HS4.cell 1
  have s2 := HS4.cell 2
  go_wp2_with fail
  refine (c3 _).out.mono ?_
  rintro e w4 ⟨rfl, hb4⟩
  clear a0 a1 a2 b0 b1 b2 s0 s1 s2
  have HA5 := HA4.kept hb4
  have HB5 := HB4.kept hb4
  have HS5 := HS4.kept hb4
  have hW5 := Calm.bt hW4 hb4
  clear HA4 HB4 HS4 hW4 hb4
  have a0 := HA5.cell 0
  have a1 := HA5.cell 1
  have a2 := HA5.cell 2
  have b0 := HB5.cell 0
  have b1 := HB5.cell 1
  have b2 := HB5.cell 2
  have s0 := HS5.cell 0
  have s1 := HS5.cell 1
  have s2 := HS5.cell 2
  go_wp2_with fail
  refine (c4 _).out.mono ?_
  rintro e w5 ⟨rfl, hb5⟩
  clear a0 a1 a2 b0 b1 b2 s0 s1 s2
  have HA6 := HA5.kept hb5
  have HB6 := HB5.kept hb5
  have HS6 := HS5.kept hb5
  have hW6 := Calm.bt hW5 hb5
  clear HA5 HB5 HS5 hW5 hb5
  have a0 := HA6.cell 0
  have a1 := HA6.cell 1
  have a2 := HA6.cell 2
  have b0 := HB6.cell 0
  have b1 := HB6.cell 1
  have b2 := HB6.cell 2
  have s0 := HS6.cell 0
  have s1 := HS6.cell 1
  have s2 := HS6.cell 2
  go_wp2_with fail
  refine (awake_any _).mono ?_
  rintro e w9 ⟨rfl, hb9⟩
  go_wp2_with fail
  go_ret
  exact ⟨rfl, Calm.bt hW6 hb9⟩

set_option maxHeartbeats 4000000 in
set_option maxRecDepth 100000 in
theorem LexMeets_n000 (la ha : ByteArray) (ta : Bool) (lb hb : ByteArray) (tb : Bool) (key : ByteArray) (w : World)
    (hl : longB [la, ha, lb, hb, key] = false) (hsa : la.size ≤ maxLen) (_hsb : lb.size ≤ maxLen) (hsk : key.size ≤ maxLen)
    (hc : ¬ cmpB la lb < 0) (he : emptyB la (lowerB ha ta hb tb) (ta && tb) = true) (hv : inB la ha ta key = false) (hi : inB la ha ta la = false) :
    Calls Try.prog 6 #[spanV la ha ta, spanV lb hb tb, .string key] w fun e w' => e = .returned (.bool true) ∧ Below w.heap.size w w' := by
  have hm : maxB la lb = la := by unfold maxB; rw [if_neg hc]
  have he2 := he
  rw [← hm] at he2
  have hn := meet_none he2 key
  rw [hv] at hn
  have hn2 := meet_none he2 la
  rw [hi] at hn2
  have HM := fun w => Lib.hid (Meet_none he2 w)
  clear hn hn2
  have HL := Lib.hid hl
  have hc' : decide (cmpB la lb < 0) = false := by simpa using hc
  have c1 := fun w => Lib.hid (RIn_is hv hsa hsk w)
  have c3 := fun w => Lib.hid (RIn_is hi hsa (by assumption) w)
  clear hl he he2 hm hv hi hc
  go_enter Try.func6, Try.ntmps6
  go_wp2_with fail
  refine (long_any [la, ha, lb, hb, key] _ _ (by simp) ?_).mono ?_
  · intro j hj
    match j, hj with
    | 0, _ => simp [go_sem]
    | 1, _ => simp [go_sem]
    | 2, _ => simp [go_sem]
    | 3, _ => simp [go_sem]
    | 4, _ => simp [go_sem]
  rintro e w1 ⟨rfl, rfl⟩
  rw [HL.out]
  go_wp2_with fail
  refine (HM _).out.mono ?_
  have HA0 : Calm.Has (((w.alloc (.cells #[.string la, .string ha, .bool ta] 31)).alloc (.cells #[.string lb, .string hb, .bool tb] 31)).alloc (.cells #[.string la, .string ha, .string lb, .string hb, .string key] 9)) w.heap.size #[.string la, .string ha, .bool ta] 31 := ((Calm.Has.new _ _ _).alloc _).alloc _
  have HB0 : Calm.Has (((w.alloc (.cells #[.string la, .string ha, .bool ta] 31)).alloc (.cells #[.string lb, .string hb, .bool tb] 31)).alloc (.cells #[.string la, .string ha, .string lb, .string hb, .string key] 9)) (w.heap.size + 1) #[.string lb, .string hb, .bool tb] 31 := by
    have h := (Calm.Has.new (w.alloc (.cells #[.string la, .string ha, .bool ta] 31)) #[.string lb, .string hb, .bool tb] 31).alloc (.cells #[.string la, .string ha, .string lb, .string hb, .string key] 9)
    simpa using h
  have hX := Calm.ba (Calm.ba (Calm.ba (Calm.br w) (.cells #[.string la, .string ha, .bool ta] 31)) (.cells #[.string lb, .string hb, .bool tb] 31)) (.cells #[.string la, .string ha, .string lb, .string hb, .string key] 9)
  rintro e w1 ⟨rfl, hb1⟩
  have hW1 := Calm.bt hX hb1
  have HA1 := HA0.kept hb1
  have HB1 := HB0.kept hb1
  clear HA0 HB0 hX hb1
  have HS1 : Calm.Has (w1.alloc (.cells #[.string ⟨#[]⟩, .string ⟨#[]⟩, .bool false] 31)) w1.heap.size #[.string ⟨#[]⟩, .string ⟨#[]⟩, .bool false] 31 := Calm.Has.new _ _ _
  have HA2 := HA1.alloc (.cells #[.string ⟨#[]⟩, .string ⟨#[]⟩, .bool false] 31)
  have HB2 := HB1.alloc (.cells #[.string ⟨#[]⟩, .string ⟨#[]⟩, .bool false] 31)
  have hW2 := Calm.ba hW1 (.cells #[.string ⟨#[]⟩, .string ⟨#[]⟩, .bool false] 31)
  clear hW1
  have l0 := HA1.lt
  have l1 := HB1.lt
  have a0 := HA1.cell 0
  have a1 := HA1.cell 1
  have a2 := HA1.cell 2
  go_wp2_with fail
  clear a0 a1 a2 HA1 HB1 l0 l1
  generalize hx : w1.alloc _ = x1 at *
  clear hx
  have hsl : w1.heap.size < x1.heap.size := HS1.lt
  generalize w1.heap.size = sb at *
  refine (c1 _).out.mono ?_
  rintro e w2 ⟨rfl, hb2⟩
  have HA3 := HA2.kept hb2
  have HB3 := HB2.kept hb2
  have HS3 := HS1.kept hb2
  have hW3 := Calm.bt hW2 hb2
  clear HA2 HB2 HS1 hW2 hb2 hsl
  have a0 := HA3.cell 0
  have a1 := HA3.cell 1
  have a2 := HA3.cell 2
  have b0 := HB3.cell 0
  have b1 := HB3.cell 1
  have b2 := HB3.cell 2
  have s0 := HS3.cell 0
  have s1 := HS3.cell 1
  have s2 := HS3.cell 2
  go_wp2_with fail
  refine (RCompare_any _ _ _ hsa).mono ?_
  rintro e w2 ⟨rfl, nd, rfl⟩
  clear a0 a1 a2 b0 b1 b2 s0 s1 s2
  have HA4 := HA3.drewN nd
  have HB4 := HB3.drewN nd
  have HS4 := HS3.drewN nd
  have hW4 := Calm.bd hW3 nd
  clear HA3 HB3 HS3 hW3
  generalize hxd : World.drewN _ nd = xd at *
  clear hxd
  have a0 := HA4.cell 0
  have a1 := HA4.cell 1
  have a2 := HA4.cell 2
  have b0 := HB4.cell 0
  have b1 := HB4.cell 1
  have b2 := HB4.cell 2
  have s0 := HS4.cell 0
  have s1 := HS4.cell 1
  have s2 := HS4.cell 2
  go_wp2_with fail
  refine (c3 _).out.mono ?_
  rintro e w4 ⟨rfl, hb4⟩
  clear a0 a1 a2 b0 b1 b2 s0 s1 s2
  have HA5 := HA4.kept hb4
  have HB5 := HB4.kept hb4
  have HS5 := HS4.kept hb4
  have hW5 := Calm.bt hW4 hb4
  clear HA4 HB4 HS4 hW4 hb4
  have a0 := HA5.cell 0
  have a1 := HA5.cell 1
  have a2 := HA5.cell 2
  have b0 := HB5.cell 0
  have b1 := HB5.cell 1
  have b2 := HB5.cell 2
  have s0 := HS5.cell 0
  have s1 := HS5.cell 1
  have s2 := HS5.cell 2
  go_wp2_with fail
  refine (awake_any _).mono ?_
  rintro e w9 ⟨rfl, hb9⟩
  go_wp2_with fail
  go_ret
  exact ⟨rfl, Calm.bt hW5 hb9⟩

set_option maxHeartbeats 4000000 in
set_option maxRecDepth 100000 in
theorem LexMeets_s00 (la ha : ByteArray) (ta : Bool) (lb hb : ByteArray) (tb : Bool) (key : ByteArray) (w : World)
    (hl : longB [la, ha, lb, hb, key] = false) (hsa : la.size ≤ maxLen) (hsb : lb.size ≤ maxLen) (hsk : key.size ≤ maxLen)
    (hc : ¬ cmpB la lb < 0) (he : emptyB la (lowerB ha ta hb tb) (ta && tb) = false) (hv : inB la ha ta key = false) :
    Calls Try.prog 6 #[spanV la ha ta, spanV lb hb tb, .string key] w fun e w' => e = .returned (.bool true) ∧ Below w.heap.size w w' := by
  have hm : maxB la lb = la := by unfold maxB; rw [if_neg hc]
  have he2 := he
  rw [← hm] at he2
  have hi : inB la ha ta la = true ∧ inB lb hb tb la = true := by
    have h := meet_some la ha ta lb hb tb
    rw [hm, he] at h; simpa using h.symm
  obtain ⟨hi, hi2⟩ := hi
  have hmk : inB la (lowerB ha ta hb tb) (ta && tb) key = false := by
    have h := meet_in la ha ta lb hb tb key
    rw [hm, hv] at h; simpa using h
  have HM := fun w => Lib.hid (Meet_some he2 w)
  rw [hm] at HM
  have hslo : la.size ≤ maxLen := by assumption
  have HL := Lib.hid hl
  have hc' : decide (cmpB la lb < 0) = false := by simpa using hc
  have c1 := fun w => Lib.hid (RIn_is hv hsa hsk w)
  have c3 := fun w => Lib.hid (RIn_is hi hsa (by assumption) w)
  have c4 := fun w => Lib.hid (RIn_is hi2 hsb (by assumption) w)
  have c5 := fun w => Lib.hid (RIn_is hmk hslo hsk w)
  clear hl he he2 hm hv hi hc hi2 hmk
  go_enter Try.func6, Try.ntmps6
  go_wp2_with fail
  refine (long_any [la, ha, lb, hb, key] _ _ (by simp) ?_).mono ?_
  · intro j hj
    match j, hj with
    | 0, _ => simp [go_sem]
    | 1, _ => simp [go_sem]
    | 2, _ => simp [go_sem]
    | 3, _ => simp [go_sem]
    | 4, _ => simp [go_sem]
  rintro e w1 ⟨rfl, rfl⟩
  rw [HL.out]
  go_wp2_with fail
  refine (HM _).out.mono ?_
  have HA0 : Calm.Has (((w.alloc (.cells #[.string la, .string ha, .bool ta] 31)).alloc (.cells #[.string lb, .string hb, .bool tb] 31)).alloc (.cells #[.string la, .string ha, .string lb, .string hb, .string key] 9)) w.heap.size #[.string la, .string ha, .bool ta] 31 := ((Calm.Has.new _ _ _).alloc _).alloc _
  have HB0 : Calm.Has (((w.alloc (.cells #[.string la, .string ha, .bool ta] 31)).alloc (.cells #[.string lb, .string hb, .bool tb] 31)).alloc (.cells #[.string la, .string ha, .string lb, .string hb, .string key] 9)) (w.heap.size + 1) #[.string lb, .string hb, .bool tb] 31 := by
    have h := (Calm.Has.new (w.alloc (.cells #[.string la, .string ha, .bool ta] 31)) #[.string lb, .string hb, .bool tb] 31).alloc (.cells #[.string la, .string ha, .string lb, .string hb, .string key] 9)
    simpa using h
  have hX := Calm.ba (Calm.ba (Calm.ba (Calm.br w) (.cells #[.string la, .string ha, .bool ta] 31)) (.cells #[.string lb, .string hb, .bool tb] 31)) (.cells #[.string la, .string ha, .string lb, .string hb, .string key] 9)
  rintro e w1 ⟨rfl, hb1⟩
  have hW1 := Calm.bt hX hb1
  have HA1 := HA0.kept hb1
  have HB1 := HB0.kept hb1
  clear HA0 HB0 hX hb1
  have HS1 : Calm.Has (w1.alloc (.cells #[.string la, .string (lowerB ha ta hb tb), .bool (ta && tb)] 31)) w1.heap.size #[.string la, .string (lowerB ha ta hb tb), .bool (ta && tb)] 31 := Calm.Has.new _ _ _
  have HA2 := HA1.alloc (.cells #[.string la, .string (lowerB ha ta hb tb), .bool (ta && tb)] 31)
  have HB2 := HB1.alloc (.cells #[.string la, .string (lowerB ha ta hb tb), .bool (ta && tb)] 31)
  have hW2 := Calm.ba hW1 (.cells #[.string la, .string (lowerB ha ta hb tb), .bool (ta && tb)] 31)
  clear hW1
  have l0 := HA1.lt
  have l1 := HB1.lt
  have a0 := HA1.cell 0
  have a1 := HA1.cell 1
  have a2 := HA1.cell 2
  go_wp2_with fail
  clear a0 a1 a2 HA1 HB1 l0 l1
  generalize hx : w1.alloc _ = x1 at *
  clear hx
  have hsl : w1.heap.size < x1.heap.size := HS1.lt
  generalize w1.heap.size = sb at *
  refine (c1 _).out.mono ?_
  rintro e w2 ⟨rfl, hb2⟩
  have HA3 := HA2.kept hb2
  have HB3 := HB2.kept hb2
  have HS3 := HS1.kept hb2
  have hW3 := Calm.bt hW2 hb2
  clear HA2 HB2 HS1 hW2 hb2 hsl
  have a0 := HA3.cell 0
  have a1 := HA3.cell 1
  have a2 := HA3.cell 2
  have b0 := HB3.cell 0
  have b1 := HB3.cell 1
  have b2 := HB3.cell 2
  have s0 := HS3.cell 0
  have s1 := HS3.cell 1
  have s2 := HS3.cell 2
  go_wp2_with fail
  refine (RCompare_any _ _ _ hsa).mono ?_
  rintro e w2 ⟨rfl, nd, rfl⟩
  clear a0 a1 a2 b0 b1 b2 s0 s1 s2
  have HA4 := HA3.drewN nd
  have HB4 := HB3.drewN nd
  have HS4 := HS3.drewN nd
  have hW4 := Calm.bd hW3 nd
  clear HA3 HB3 HS3 hW3
  generalize hxd : World.drewN _ nd = xd at *
  clear hxd
  have a0 := HA4.cell 0
  have a1 := HA4.cell 1
  have a2 := HA4.cell 2
  have b0 := HB4.cell 0
  have b1 := HB4.cell 1
  have b2 := HB4.cell 2
  have s0 := HS4.cell 0
  have s1 := HS4.cell 1
  have s2 := HS4.cell 2
  go_wp2_with fail
  refine (c3 _).out.mono ?_
  rintro e w4 ⟨rfl, hb4⟩
  clear a0 a1 a2 b0 b1 b2 s0 s1 s2
  have HA5 := HA4.kept hb4
  have HB5 := HB4.kept hb4
  have HS5 := HS4.kept hb4
  have hW5 := Calm.bt hW4 hb4
  clear HA4 HB4 HS4 hW4 hb4
  have a0 := HA5.cell 0
  have a1 := HA5.cell 1
  have a2 := HA5.cell 2
  have b0 := HB5.cell 0
  have b1 := HB5.cell 1
  have b2 := HB5.cell 2
  have s0 := HS5.cell 0
  have s1 := HS5.cell 1
  have s2 := HS5.cell 2
  go_wp2_with fail
  refine (c4 _).out.mono ?_
  rintro e w5 ⟨rfl, hb5⟩
  clear a0 a1 a2 b0 b1 b2 s0 s1 s2
  have HA6 := HA5.kept hb5
  have HB6 := HB5.kept hb5
  have HS6 := HS5.kept hb5
  have hW6 := Calm.bt hW5 hb5
  clear HA5 HB5 HS5 hW5 hb5
  have a0 := HA6.cell 0
  have a1 := HA6.cell 1
  have a2 := HA6.cell 2
  have b0 := HB6.cell 0
  have b1 := HB6.cell 1
  have b2 := HB6.cell 2
  have s0 := HS6.cell 0
  have s1 := HS6.cell 1
  have s2 := HS6.cell 2
  go_wp2_with fail
  refine (c5 _).out.mono ?_
  rintro e w6 ⟨rfl, hb6⟩
  clear a0 a1 a2 b0 b1 b2 s0 s1 s2
  have HA7 := HA6.kept hb6
  have HB7 := HB6.kept hb6
  have HS7 := HS6.kept hb6
  have hW7 := Calm.bt hW6 hb6
  clear HA6 HB6 HS6 hW6 hb6
  have a0 := HA7.cell 0
  have a1 := HA7.cell 1
  have a2 := HA7.cell 2
  have b0 := HB7.cell 0
  have b1 := HB7.cell 1
  have b2 := HB7.cell 2
  have s0 := HS7.cell 0
  have s1 := HS7.cell 1
  have s2 := HS7.cell 2
  cases ta <;> cases tb
  case true.true =>
    have htt : lowerB ha true hb true = ⟨#[]⟩ := rfl
    go_wp2_with fail
    refine (awake_any _).mono ?_
    rintro e w9 ⟨rfl, hb9⟩
    go_wp2_with fail
    go_ret
    exact ⟨rfl, Calm.bt hW7 hb9⟩
  all_goals
    go_wp2_with fail
    refine (awake_any _).mono ?_
    rintro e w9 ⟨rfl, hb9⟩
    go_wp2_with fail
    go_ret
    exact ⟨rfl, Calm.bt hW7 hb9⟩

theorem LexMeets_walk (la ha : ByteArray) (ta : Bool) (lb hb : ByteArray) (tb : Bool) (key : ByteArray) (w : World) :
    Calls Try.prog 6 #[spanV la ha ta, spanV lb hb tb, .string key] w fun e w' => e = .returned (.bool true) ∧ Below w.heap.size w w' := by
  cases hl : longB [la, ha, lb, hb, key]
  · have hs := longB_all hl
    have hsa : la.size ≤ maxLen := by have := hs la (by simp); unfold maxLen; omega
    have hsb : lb.size ≤ maxLen := by have := hs lb (by simp); unfold maxLen; omega
    have hsk : key.size ≤ maxLen := by have := hs key (by simp); unfold maxLen; omega
    by_cases hc : cmpB la lb < 0
    · cases he : emptyB lb (lowerB ha ta hb tb) (ta && tb) <;> cases hv : inB la ha ta key
      · exact LexMeets_s10 la ha ta lb hb tb key w hl hsa hsb hsk hc he hv
      · exact LexMeets_s11 la ha ta lb hb tb key w hl hsa hsb hsk hc he hv
      · cases hi : inB la ha ta lb
        · exact LexMeets_n100 la ha ta lb hb tb key w hl hsa hsb hsk hc he hv hi
        · exact LexMeets_n101 la ha ta lb hb tb key w hl hsa hsb hsk hc he hv hi
      · cases hi : inB la ha ta lb
        · exact LexMeets_n110 la ha ta lb hb tb key w hl hsa hsb hsk hc he hv hi
        · exact LexMeets_n111 la ha ta lb hb tb key w hl hsa hsb hsk hc he hv hi
    · cases he : emptyB la (lowerB ha ta hb tb) (ta && tb) <;> cases hv : inB la ha ta key
      · exact LexMeets_s00 la ha ta lb hb tb key w hl hsa hsb hsk hc he hv
      · exact LexMeets_s01 la ha ta lb hb tb key w hl hsa hsb hsk hc he hv
      · cases hi : inB la ha ta la
        · exact LexMeets_n000 la ha ta lb hb tb key w hl hsa hsb hsk hc he hv hi
        · exact LexMeets_n001 la ha ta lb hb tb key w hl hsa hsb hsk hc he hv hi
      · cases hi : inB la ha ta la
        · exact LexMeets_n010 la ha ta lb hb tb key w hl hsa hsb hsk hc he hv hi
        · exact LexMeets_n011 la ha ta lb hb tb key w hl hsa hsb hsk hc he hv hi
  · go_enter Try.func6, Try.ntmps6
    go_wp2_with fail
    refine (long_any [la, ha, lb, hb, key] _ _ (by simp) ?_).mono ?_
    · intro j hj
      match j, hj with
      | 0, _ => simp [go_sem]
      | 1, _ => simp [go_sem]
      | 2, _ => simp [go_sem]
      | 3, _ => simp [go_sem]
      | 4, _ => simp [go_sem]
    rintro e w1 ⟨rfl, rfl⟩
    rw [hl]
    go_wp2_with fail
    refine (awake_any _).mono ?_
    rintro e w2 ⟨rfl, hb2⟩
    go_wp2_with fail
    go_ret
    exact ⟨rfl, Calm.bt (Calm.ba (Calm.ba (Calm.ba (Calm.br _) _) _) _) hb2⟩
end Lx
end Go.Proofs.Yteadgfdjpodblaa
