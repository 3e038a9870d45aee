/-
  The order of keys: the document's Compare and In.
-/
import Derived.Test.YtlcdjbleeanpbaaProg
import Derived.Test.YtlcdjbleeanpbaaLexPlain
import Derived.WalkKit
import Derived.WalkLawsBesides
import Derived.KernelRfl
import Derived.Deep.QuietTactic
import Derived.BigQuiet
import Derived.Lib.QuietBelow
import Derived.Lib.Hide
namespace Go.Proofs.Ytlcdjbleeanpbaa
open Go.RowKit
namespace Lx

abbrev cmpB (a b : ByteArray) : Int := Lib.compareBytes a.data.toList b.data.toList

/-- the first k bytes of both are alike (kept from the walk) -/
def EqTo (a b : ByteArray) (k : Nat) : Prop := ∀ j, j < k → a.data.toList.getD j 0 = b.data.toList.getD j 0
theorem EqTo.zero (a b : ByteArray) : EqTo a b 0 := fun j h => by omega
theorem getD_eq (a : ByteArray) (k : Nat) (h : k < a.size) : a.data.toList.getD k 0 = a[k] := by
  have : k < a.data.toList.length := by simpa using h
  simp [List.getD, List.getElem?_eq_getElem this]; rfl
theorem EqTo.succ {a b : ByteArray} {k : Nat} (h : EqTo a b k) (ha : k < a.size) (hb : k < b.size) (e : a[k] = b[k]) : EqTo a b (k + 1) := fun j hj => by
  by_cases hk : j = k
  · subst hk; rw [getD_eq a j ha, getD_eq b j hb, e]
  · exact h j (by omega)
theorem len_eq (a : ByteArray) : a.data.toList.length = a.size := by rw [Array.length_toList]; rfl
theorem EqTo.lt {a b : ByteArray} {k : Nat} (h : EqTo a b k) (ha : k < a.size) (hb : k < b.size) (e : (a[k].toNat : Int) < (b[k].toNat : Int)) : cmpB a b = -1 := by
  refine cmp_at_lt (k := k) (by rw [len_eq]; exact ha) (by rw [len_eq]; exact hb) h ?_
  rw [getD_eq a k ha, getD_eq b k hb, UInt8.lt_iff_toNat_lt]; omega
theorem EqTo.gt {a b : ByteArray} {k : Nat} (h : EqTo a b k) (ha : k < a.size) (hb : k < b.size) (e : (b[k].toNat : Int) < (a[k].toNat : Int)) : cmpB a b = 1 := by
  refine cmp_at_gt (k := k) (by rw [len_eq]; exact ha) (by rw [len_eq]; exact hb) h ?_
  rw [getD_eq a k ha, getD_eq b k hb, UInt8.lt_iff_toNat_lt]; omega
theorem u8_eq {x y : UInt8} (h : ¬ (x.toNat : Int) < (y.toNat : Int)) (k : ¬ (y.toNat : Int) < (x.toNat : Int)) : x = y := by
  rw [← UInt8.toNat_inj]; omega
theorem EqTo.ended {a b : ByteArray} {k : Nat} (h : EqTo a b k) (he : ¬ (k < a.size ∧ k < b.size)) :
    cmpB a b = if a.size < b.size then -1 else if b.size < a.size then 1 else 0 := by
  have := cmp_at_end (a := a.data.toList) (b := b.data.toList) (fun j h1 h2 => h j (by rw [len_eq] at h1 h2; omega))
  rw [len_eq, len_eq] at this; exact this
theorem EqTo.shared {a b : ByteArray} {k : Nat} (h : EqTo a b k) (ha : k ≤ a.size) (hb : k ≤ b.size) (hn : ∀ (x : k < a.size) (y : k < b.size), a[k] ≠ b[k]) : shared a.data.toList b.data.toList = k := by
  refine shared_of (by rw [len_eq]; exact ha) (by rw [len_eq]; exact hb) h ?_
  intro h1 h2
  rw [len_eq] at h1 h2
  rw [getD_eq a k h1, getD_eq b k h2]; exact hn h1 h2

theorem ret_pair {a b a' b' : Value} (h : a = a') (k : b = b') : Ending.returned (.tuple #[a, b]) = .returned (.tuple #[a', b']) := by rw [h, k]
theorem ret_int {k : IntKind} {a b : Int} (h : a = b) : Ending.returned (.int k a) = .returned (.int k b) := by rw [h]

theorem drewN2 (w : World) (n m : Nat) : ∃ k, (w.drewN n).drewN m = w.drewN k := ⟨n + m, by rw [World.drewN_drewN]⟩
theorem drewN3 (w : World) (n m l : Nat) : ∃ k, ((w.drewN n).drewN m).drewN l = w.drewN k := ⟨n + (m + l), by rw [World.drewN_drewN, World.drewN_drewN]⟩
theorem below_drewN (B : Nat) (w : World) (n : Nat) : Below B w (w.drewN n) := ⟨rfl, rfl, rfl, Nat.le_refl _, fun _ _ => rfl⟩

set_option maxHeartbeats 1000000 in
theorem RCompare_any (a b : ByteArray) (w : World) (ha : a.size ≤ maxLen) :
    Calls Try.prog 61 #[.string a, .string b] w fun e w' => e = .returned (.int .i64 (cmpB a b)) ∧ ∃ n, w' = w.drewN n := by
  unfold maxLen at ha
  go_enter Try.func61, Try.ntmps61
  go_wp2
  go_loopw [5] (fun i wr => ∃ k : Nat, k ≤ a.size ∧ k ≤ b.size ∧ i = .int .i64 k ∧ EqTo a b k ∧ ∃ n, wr = w.drewN n) (fun i _ => a.size - (intOf i).toNat)
  case atStart => exact ⟨0, Nat.zero_le _, Nat.zero_le _, rfl, EqTo.zero a b, 0, rfl⟩
  case round =>
    obtain ⟨k, hka, hkb, rfl, heq, n, rfl⟩ := hrel
    by_cases h1 : k < a.size
    · by_cases h2 : k < b.size
      · by_cases h3 : (a[k].toNat : Int) < (b[k].toNat : Int)
        · have HR := Lib.hid (heq.lt h1 h2 h3)
          go_wp2
          go_quiet (fail)
          go_wp2
          go_ret
          exact ⟨ret_int HR.out.symm, drewN2 _ _ _⟩
        · by_cases h4 : (b[k].toNat : Int) < (a[k].toNat : Int)
          · have HR := Lib.hid (heq.gt h1 h2 h4)
            go_wp2
            go_quiet (fail)
            go_wp2
            go_quiet (fail)
            go_wp2
            go_ret
            exact ⟨ret_int HR.out.symm, drewN3 _ _ _ _⟩
          · have HR := Lib.hid (heq.succ h1 h2 (u8_eq h3 h4))
            go_wp2
            go_quiet (fail)
            go_wp2
            go_quiet (fail)
            go_wp2
            go_roundw
            case rel => exact ⟨k + 1, by omega, by omega, by go_num, HR.out, _, rfl⟩
            case measure => simp [intOf]; omega
      · have HR := Lib.hid (heq.ended (by omega))
        go_wp2
        all_goals go_ret
        all_goals exact ⟨by rw [HR.out]; simp [*], _, rfl⟩
    · have HR := Lib.hid (heq.ended (by omega))
      go_wp2
      all_goals go_ret
      all_goals exact ⟨by rw [HR.out]; simp [*], _, rfl⟩

/-- a span as a value -/
abbrev spanV (lo hi : ByteArray) (top : Bool) : Value := .agg #[.string lo, .string hi, .bool top]
def inB (lo hi : ByteArray) (top : Bool) (key : ByteArray) : Bool := decide (cmpB lo key ≤ 0) && (top || decide (cmpB key hi < 0))
theorem ret_bool {a b : Bool} (h : a = b) : Ending.returned (.bool a) = .returned (.bool b) := by rw [h]

set_option maxHeartbeats 1000000 in
theorem RIn_any (lo hi : ByteArray) (top : Bool) (key : ByteArray) (w : World) (hl : lo.size ≤ maxLen) (hk : key.size ≤ maxLen) :
    Calls Try.prog 56 #[spanV lo hi top, .string key] w fun e w' => e = .returned (.bool (inB lo hi top key)) ∧ Below w.heap.size w w' := by
  by_cases h1 : cmpB lo key ≤ 0
  · cases top
    · have HR : Hid (inB lo hi false key = decide (cmpB key hi < 0)) := Lib.hid (by simp [inB, h1])
      go_enter Try.func56, Try.ntmps56
      go_wp2_with (go_at_call 61; refine (RCompare_any _ _ _ (by assumption)).mono ?_; rintro e w' ⟨rfl, n, rfl⟩)
      go_ret
      exact ⟨ret_bool (by rw [HR.out]), ((Below.refl _ _).alloc (Nat.le_refl _) _).trans (below_drewN _ _ _)⟩
    · have HR : Hid (inB lo hi true key = true) := Lib.hid (by simp [inB, h1])
      go_enter Try.func56, Try.ntmps56
      go_wp2_with (go_at_call 61; refine (RCompare_any _ _ _ (by assumption)).mono ?_; rintro e w' ⟨rfl, n, rfl⟩)
      go_ret
      exact ⟨ret_bool (by rw [HR.out]), ((Below.refl _ _).alloc (Nat.le_refl _) _).trans (below_drewN _ _ _)⟩
  · have HR : Hid (inB lo hi top key = false) := Lib.hid (by simp [inB, h1])
    have h1' : decide (cmpB lo key ≤ 0) = false := by simpa using h1
    go_enter Try.func56, Try.ntmps56
    go_wp2_with (go_at_call 61; refine (RCompare_any _ _ _ (by assumption)).mono ?_; rintro e w' ⟨rfl, n, rfl⟩)
    go_ret
    exact ⟨ret_bool (by rw [HR.out]), ((Below.refl _ _).alloc (Nat.le_refl _) _).trans (below_drewN _ _ _)⟩
end Lx
end Go.Proofs.Ytlcdjbleeanpbaa
