/-
  Contracts of layer lex: Compare, the document's Compare, Shared, Next.
-/
import Derived.Test.YteadgfdjpodblaaProg
import Derived.Test.YteadgfdjpodblaaLexPlain
import Derived.WalkKit
import Derived.WalkLawsBesides
import Derived.KernelRfl
import Derived.Deep.QuietTactic
import Derived.BigQuiet
import Derived.Lib.QuietBelow
import Derived.Lib.Hide
namespace Go.Proofs.Yteadgfdjpodblaa
open Go.RowKit
namespace Lx

abbrev cmpB (a b : ByteArray) : Int := Lib.compareBytes a.data.toList b.data.toList

set_option maxHeartbeats 400000 in
theorem cmpString_any (a b : ByteArray) (w : World) :
    Calls Try.prog 24 #[.string a, .string b] w fun e w' => e = .returned (.int .i64 (cmpB a b)) ∧ w = w' := by
  go_enter Try.func24, Try.ntmps24
  go_wp2
  rw [run_callFunc_extern Try.func25 (by kernel_rfl) (by kernel_rfl) (by kernel_rfl) (e := Extern.BytealgCompare.compare) (by kernel_rfl), Lib.run_compareString]
  simp only [Result.andThen]
  rw [Oper.upon_value]
  go_wp2
  go_ret
  exact ⟨rfl, rfl⟩

set_option maxHeartbeats 400000 in
theorem stringsCompare_any (a b : ByteArray) (w : World) :
    Calls Try.prog 22 #[.string a, .string b] w fun e w' => e = .returned (.int .i64 (cmpB a b)) ∧ w = w' := by
  go_enter Try.func22, Try.ntmps22
  go_wp2_with (go_at_call 24; refine (cmpString_any _ _ _).mono ?_; rintro e w' ⟨rfl, rfl⟩)
  go_ret
  exact ⟨rfl, rfl⟩

set_option maxHeartbeats 400000 in
theorem Compare_any (a b : ByteArray) (w : World) :
    Calls Try.prog 11 #[.string a, .string b] w fun e w' => e = .returned (.int .i64 (cmpB a b)) ∧ w = w' := by
  go_enter Try.func11, Try.ntmps11
  go_wp2_with (go_at_call 22; refine (stringsCompare_any _ _ _).mono ?_; rintro e w' ⟨rfl, rfl⟩)
  go_ret
  exact ⟨rfl, rfl⟩

/-- the first k bytes of both are alike (kept from the walk) -/
def EqTo (a b : ByteArray) (k : Nat) : Prop := ∀ j, j < k → a.data.toList.getD j 0 = b.data.toList.getD j 0
theorem EqTo.zero (a b : ByteArray) : EqTo a b 0 := fun j h => by omega
theorem getD_eq (a : ByteArray) (k : Nat) (h : k < a.size) : a.data.toList.getD k 0 = a[k] := by
  have : k < a.data.toList.length := by simpa using h
  simp [List.getD, List.getElem?_eq_getElem this]; rfl
theorem EqTo.succ {a b : ByteArray} {k : Nat} (h : EqTo a b k) (ha : k < a.size) (hb : k < b.size) (e : a[k] = b[k]) : EqTo a b (k + 1) := fun j hj => by
  by_cases hk : j = k
  · subst hk; rw [getD_eq a j ha, getD_eq b j hb, e]
  · exact h j (by omega)
theorem len_eq (a : ByteArray) : a.data.toList.length = a.size := by rw [Array.length_toList]; rfl
theorem EqTo.lt {a b : ByteArray} {k : Nat} (h : EqTo a b k) (ha : k < a.size) (hb : k < b.size) (e : (a[k].toNat : Int) < (b[k].toNat : Int)) : cmpB a b = -1 := by
  refine cmp_at_lt (k := k) (by rw [len_eq]; exact ha) (by rw [len_eq]; exact hb) h ?_
  rw [getD_eq a k ha, getD_eq b k hb, UInt8.lt_iff_toNat_lt]; omega
theorem EqTo.gt {a b : ByteArray} {k : Nat} (h : EqTo a b k) (ha : k < a.size) (hb : k < b.size) (e : (b[k].toNat : Int) < (a[k].toNat : Int)) : cmpB a b = 1 := by
  refine cmp_at_gt (k := k) (by rw [len_eq]; exact ha) (by rw [len_eq]; exact hb) h ?_
  rw [getD_eq a k ha, getD_eq b k hb, UInt8.lt_iff_toNat_lt]; omega
theorem u8_eq {x y : UInt8} (h : ¬ (x.toNat : Int) < (y.toNat : Int)) (k : ¬ (y.toNat : Int) < (x.toNat : Int)) : x = y := by
  rw [← UInt8.toNat_inj]; omega
theorem EqTo.ended {a b : ByteArray} {k : Nat} (h : EqTo a b k) (he : ¬ (k < a.size ∧ k < b.size)) :
    cmpB a b = if a.size < b.size then -1 else if b.size < a.size then 1 else 0 := by
  have := cmp_at_end (a := a.data.toList) (b := b.data.toList) (fun j h1 h2 => h j (by rw [len_eq] at h1 h2; omega))
  rw [len_eq, len_eq] at this; exact this
theorem EqTo.shared {a b : ByteArray} {k : Nat} (h : EqTo a b k) (ha : k ≤ a.size) (hb : k ≤ b.size) (hn : ∀ (x : k < a.size) (y : k < b.size), a[k] ≠ b[k]) : shared a.data.toList b.data.toList = k := by
  refine shared_of (by rw [len_eq]; exact ha) (by rw [len_eq]; exact hb) h ?_
  intro h1 h2
  rw [len_eq] at h1 h2
  rw [getD_eq a k h1, getD_eq b k h2]; exact hn h1 h2

theorem ret_pair {a b a' b' : Value} (h : a = a') (k : b = b') : Ending.returned (.tuple #[a, b]) = .returned (.tuple #[a', b']) := by rw [h, k]
theorem ret_int {k : IntKind} {a b : Int} (h : a = b) : Ending.returned (.int k a) = .returned (.int k b) := by rw [h]

theorem drewN2 (w : World) (n m : Nat) : ∃ k, (w.drewN n).drewN m = w.drewN k := ⟨n + m, by rw [World.drewN_drewN]⟩
theorem drewN3 (w : World) (n m l : Nat) : ∃ k, ((w.drewN n).drewN m).drewN l = w.drewN k := ⟨n + (m + l), by rw [World.drewN_drewN, World.drewN_drewN]⟩
theorem below_drewN (B : Nat) (w : World) (n : Nat) : Below B w (w.drewN n) := ⟨rfl, rfl, rfl, Nat.le_refl _, fun _ _ => rfl⟩

set_option maxHeartbeats 1000000 in
theorem RCompare_any (a b : ByteArray) (w : World) (ha : a.size ≤ maxLen) :
    Calls Try.prog 12 #[.string a, .string b] w fun e w' => e = .returned (.int .i64 (cmpB a b)) ∧ ∃ n, w' = w.drewN n := by
  unfold maxLen at ha
  go_enter Try.func12, Try.ntmps12
  go_wp2
  go_loopw [5] (fun i wr => ∃ k : Nat, k ≤ a.size ∧ k ≤ b.size ∧ i = .int .i64 k ∧ EqTo a b k ∧ ∃ n, wr = w.drewN n) (fun i _ => a.size - (intOf i).toNat)
  case atStart => exact ⟨0, Nat.zero_le _, Nat.zero_le _, rfl, EqTo.zero a b, 0, rfl⟩
  case round =>
    obtain ⟨k, hka, hkb, rfl, heq, n, rfl⟩ := hrel
    by_cases h1 : k < a.size
    · by_cases h2 : k < b.size
      · by_cases h3 : (a[k].toNat : Int) < (b[k].toNat : Int)
        · have HR := Lib.hid (heq.lt h1 h2 h3)
          go_wp2
          go_quiet (fail)
          go_wp2
          go_ret
          exact ⟨ret_int HR.out.symm, drewN2 _ _ _⟩
        · by_cases h4 : (b[k].toNat : Int) < (a[k].toNat : Int)
          · have HR := Lib.hid (heq.gt h1 h2 h4)
            go_wp2
            go_quiet (fail)
            go_wp2
            go_quiet (fail)
            go_wp2
            go_ret
            exact ⟨ret_int HR.out.symm, drewN3 _ _ _ _⟩
          · have HR := Lib.hid (heq.succ h1 h2 (u8_eq h3 h4))
            go_wp2
            go_quiet (fail)
            go_wp2
            go_quiet (fail)
            go_wp2
            go_roundw
            case rel => exact ⟨k + 1, by omega, by omega, by go_num, HR.out, _, rfl⟩
            case measure => simp [intOf]; omega
      · have HR := Lib.hid (heq.ended (by omega))
        go_wp2
        all_goals go_ret
        all_goals exact ⟨by rw [HR.out]; simp [*], _, rfl⟩
    · have HR := Lib.hid (heq.ended (by omega))
      go_wp2
      all_goals go_ret
      all_goals exact ⟨by rw [HR.out]; simp [*], _, rfl⟩

set_option maxHeartbeats 1000000 in
theorem Shared_any (a b : ByteArray) (w : World) (ha : a.size ≤ maxLen) :
    Calls Try.prog 13 #[.string a, .string b] w fun e w' => e = .returned (.int .i64 (shared a.data.toList b.data.toList)) ∧ ∃ n, w' = w.drewN n := by
  unfold maxLen at ha
  go_enter Try.func13, Try.ntmps13
  go_wp2
  go_loopw [5] (fun i wr => ∃ k : Nat, k ≤ a.size ∧ k ≤ b.size ∧ i = .int .i64 k ∧ EqTo a b k ∧ ∃ n, wr = w.drewN n) (fun i _ => a.size - (intOf i).toNat)
  case atStart => exact ⟨0, Nat.zero_le _, Nat.zero_le _, rfl, EqTo.zero a b, 0, rfl⟩
  case round =>
    obtain ⟨k, hka, hkb, rfl, heq, n, rfl⟩ := hrel
    by_cases h1 : k < a.size
    · by_cases h2 : k < b.size
      · by_cases h3 : a[k] = b[k]
        · have HR := Lib.hid (heq.succ h1 h2 h3)
          have h4 : ((a[k].toNat : Int) == (b[k].toNat : Int)) = true := by rw [h3]; simp
          clear h3
          go_wp2
          go_quiet (fail)
          go_wp2
          go_roundw
          case rel => exact ⟨k + 1, by omega, by omega, by go_num, HR.out, _, rfl⟩
          case measure => simp [intOf]; omega
        · have HR := Lib.hid (heq.shared hka hkb (fun _ _ => h3))
          have h4 : ((a[k].toNat : Int) == (b[k].toNat : Int)) = false := by
            rw [beq_eq_false_iff_ne]; intro e; exact h3 (UInt8.toNat_inj.1 (by omega))
          clear h3
          go_wp2
          go_quiet (fail)
          go_wp2
          go_ret
          exact ⟨ret_int (by rw [HR.out]), drewN2 _ _ _⟩
      · have HR := Lib.hid (heq.shared hka hkb (fun _ h => absurd h h2))
        have h2' : decide (k < b.size) = false := by simpa using h2
        go_wp2
        go_quiet (fail)
        go_wp2
        go_ret
        exact ⟨ret_int (by rw [HR.out]), drewN2 _ _ _⟩
    · have HR := Lib.hid (heq.shared hka hkb (fun h _ => absurd h h1))
      have h1' : decide (k < a.size) = false := by simpa using h1
      go_wp2
      go_quiet (fail)
      go_wp2
      go_ret
      exact ⟨ret_int (by rw [HR.out]), drewN2 _ _ _⟩
set_option maxHeartbeats 1000000 in
theorem RShared_any (a b : ByteArray) (w : World) (ha : a.size ≤ maxLen) :
    Calls Try.prog 14 #[.string a, .string b] w fun e w' => e = .returned (.int .i64 (shared a.data.toList b.data.toList)) ∧ ∃ n, w' = w.drewN n := by
  unfold maxLen at ha
  go_enter Try.func14, Try.ntmps14
  go_wp2
  go_loopw [5] (fun i wr => ∃ k : Nat, k ≤ a.size ∧ k ≤ b.size ∧ i = .int .i64 k ∧ EqTo a b k ∧ ∃ n, wr = w.drewN n) (fun i _ => a.size - (intOf i).toNat)
  case atStart => exact ⟨0, Nat.zero_le _, Nat.zero_le _, rfl, EqTo.zero a b, 0, rfl⟩
  case round =>
    obtain ⟨k, hka, hkb, rfl, heq, n, rfl⟩ := hrel
    by_cases h1 : k < a.size
    · by_cases h2 : k < b.size
      · by_cases h3 : a[k] = b[k]
        · have HR := Lib.hid (heq.succ h1 h2 h3)
          have h4 : ((a[k].toNat : Int) == (b[k].toNat : Int)) = true := by rw [h3]; simp
          clear h3
          go_wp2
          go_quiet (fail)
          go_wp2
          go_roundw
          case rel => exact ⟨k + 1, by omega, by omega, by go_num, HR.out, _, rfl⟩
          case measure => simp [intOf]; omega
        · have HR := Lib.hid (heq.shared hka hkb (fun _ _ => h3))
          have h4 : ((a[k].toNat : Int) == (b[k].toNat : Int)) = false := by
            rw [beq_eq_false_iff_ne]; intro e; exact h3 (UInt8.toNat_inj.1 (by omega))
          clear h3
          go_wp2
          go_quiet (fail)
          go_wp2
          go_ret
          exact ⟨ret_int (by rw [HR.out]), drewN2 _ _ _⟩
      · have HR := Lib.hid (heq.shared hka hkb (fun _ h => absurd h h2))
        have h2' : decide (k < b.size) = false := by simpa using h2
        go_wp2
        go_quiet (fail)
        go_wp2
        go_ret
        exact ⟨ret_int (by rw [HR.out]), drewN2 _ _ _⟩
    · have HR := Lib.hid (heq.shared hka hkb (fun h _ => absurd h h1))
      have h1' : decide (k < a.size) = false := by simpa using h1
      go_wp2
      go_quiet (fail)
      go_wp2
      go_ret
      exact ⟨ret_int (by rw [HR.out]), drewN2 _ _ _⟩

/-- the cut, as a text and whether there is one -/
def cutB (a b : ByteArray) : ByteArray × Bool :=
  if 0 ≤ cmpB a b then (⟨#[]⟩, false) else (b.extract 0 (shared a.data.toList b.data.toList + 1), true)
theorem cutB_none {a b : ByteArray} (h : 0 ≤ cmpB a b) : cutB a b = (⟨#[]⟩, false) := if_pos h
theorem cutB_some {a b : ByteArray} (h : ¬ 0 ≤ cmpB a b) : cutB a b = (b.extract 0 (shared a.data.toList b.data.toList + 1), true) := if_neg h

theorem size_append (a b : ByteArray) : (a ++ b).size = a.size + b.size := ByteArray.size_append
set_option maxHeartbeats 400000 in
theorem Next_any (a : ByteArray) (w : World) (ha : a.size < maxLen) :
    Calls Try.prog 15 #[.string a] w fun e w' => e = .returned (.string (a ++ ⟨#[0]⟩)) ∧ w = w' := by
  unfold maxLen at ha
  go_enter Try.func15, Try.ntmps15
  go_wp2
  go_ret
  exact ⟨rfl, rfl⟩

set_option maxHeartbeats 1000000 in
theorem Cut_any (a b : ByteArray) (w : World) (ha : a.size ≤ maxLen) (hb : b.size ≤ maxLen) :
    Calls Try.prog 9 #[.string a, .string b] w fun e w' => e = .returned (.tuple #[.string (cutB a b).1, .bool (cutB a b).2]) ∧ ∃ n, w' = w.drewN n := by
  unfold maxLen at ha hb
  by_cases h : 0 ≤ cmpB a b
  · have HR := Lib.hid (cutB_none h)
    go_enter Try.func9, Try.ntmps9
    go_wp2_with (go_at_call 11; refine (Compare_any _ _ _).mono ?_; rintro e w' ⟨rfl, rfl⟩)
    go_ret2
    exact ⟨ret_pair (by rw [HR.out]; rfl) (by rw [HR.out]; rfl), 0, rfl⟩
  · have HR := Lib.hid (cutB_some h)
    have hl : shared a.data.toList b.data.toList < b.size := by
      have := shared_lt_of_lt (a := a.data.toList) (b := b.data.toList) (by unfold cmpB at h; omega)
      rw [len_eq] at this; exact this
    go_enter Try.func9, Try.ntmps9
    go_wp2_with (first | (go_at_call 11; refine (Compare_any _ _ _).mono ?_; rintro e w' ⟨rfl, rfl⟩) | (go_at_call 13; refine (Shared_any _ _ _ ?_).mono ?_; (unfold maxLen; omega); rintro e w' ⟨rfl, n, rfl⟩))
    go_ret2
    exact ⟨ret_pair (by rw [HR.out]; rfl) (by rw [HR.out]; rfl), n, rfl⟩

theorem extract_list (b : ByteArray) (k : Nat) : (b.extract 0 k).data.toList = b.data.toList.take k := by
  simp [ByteArray.data_extract]

set_option maxHeartbeats 1000000 in
theorem RCut_any (a b : ByteArray) (w : World) (ha : a.size ≤ maxLen) (hb : b.size ≤ maxLen) :
    Calls Try.prog 10 #[.string a, .string b] w fun e w' => e = .returned (.tuple #[.string (cutB a b).1, .bool (cutB a b).2]) ∧ ∃ n, w' = w.drewN n := by
  unfold maxLen at ha hb
  by_cases h : 0 ≤ cmpB a b
  · have HR := Lib.hid (cutB_none h)
    go_enter Try.func10, Try.ntmps10
    go_wp2_with (go_at_call 12; refine (RCompare_any _ _ _ ?_).mono ?_; (unfold maxLen; omega); rintro e w' ⟨rfl, n, rfl⟩)
    go_ret2
    exact ⟨ret_pair (by rw [HR.out]; rfl) (by rw [HR.out]; rfl), n, rfl⟩
  · have HR := Lib.hid (cutB_some h)
    have hneg : Lib.compareBytes a.data.toList b.data.toList < 0 := by unfold cmpB at h; omega
    have hl : shared a.data.toList b.data.toList < b.size := by
      have := shared_lt_of_lt hneg
      rw [len_eq] at this; exact this
    have H1 := Lib.hid (cmp_take_shared a.data.toList b.data.toList)
    have H2 := Lib.hid (cmp_take_cut a.data.toList b.data.toList hneg)
    clear hneg
    generalize hs : shared a.data.toList b.data.toList = m at *
    have HS := Lib.hid hs
    clear hs
    go_enter Try.func10, Try.ntmps10
    go_wp2_with (go_at_call 12; refine (RCompare_any _ _ _ ?_).mono ?_; (unfold maxLen; omega); rintro e w' ⟨rfl, n0, rfl⟩)
    go_loopw [6] (fun i wr => ∃ k : Nat, k ≤ m + 1 ∧ i = .int .i64 k ∧ ∃ n, wr = w.drewN n) (fun i _ => m + 1 - (intOf i).toNat)
    case atStart => exact ⟨0, Nat.zero_le _, rfl, _, rfl⟩
    case round =>
      obtain ⟨k, hk, rfl, n, rfl⟩ := hrel
      by_cases h3 : k ≤ m
      · have h4 : 0 ≤ cmpB a (b.extract 0 k) := by
          have := H1.out k h3
          unfold cmpB; rw [extract_list]; exact this
        go_wp2_with (go_at_call 12; refine (RCompare_any _ _ _ ?_).mono ?_; (unfold maxLen; omega); rintro e w' ⟨rfl, n1, rfl⟩)
        go_roundw
        case rel => exact ⟨k + 1, by omega, by go_num, _, rfl⟩
        case measure => simp [intOf]; omega
      · obtain rfl : k = m + 1 := by omega
        have h4 : cmpB a (b.extract 0 (m + 1)) < 0 := by
          have := H2.out
          unfold cmpB; rw [extract_list]; exact this
        go_wp2_with (go_at_call 12; refine (RCompare_any _ _ _ ?_).mono ?_; (unfold maxLen; omega); rintro e w' ⟨rfl, n1, rfl⟩)
        go_ret2
        exact ⟨ret_pair (by rw [HR.out]; rfl) (by rw [HR.out]; rfl), _, rfl⟩
end Lx
end Go.Proofs.Yteadgfdjpodblaa
