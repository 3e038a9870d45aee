/-
  OrdR, OrdP, SpanD, CutD, CmpC, SpanR. Put together by pack.py.
-/
import Derived.Test.YtlabbmfiecbigaaProg
import Derived.Test.YtlabbmfiecbigaaLexPlain
import Derived.WalkKit
import Derived.WalkLawsBesides
import Derived.KernelRfl
import Derived.Deep.QuietTactic
import Derived.BigQuiet
import Derived.Lib.QuietBelow
import Derived.Lib.Hide

namespace Go.Proofs.Ytlabbmfiecbigaa
open Go.RowKit
namespace Lx

abbrev cmpB (a b : ByteArray) : Int := Lib.compareBytes a.data.toList b.data.toList

/-- the first k bytes of both are alike (kept from the walk) -/
def EqTo (a b : ByteArray) (k : Nat) : Prop := ∀ j, j < k → a.data.toList.getD j 0 = b.data.toList.getD j 0
theorem EqTo.zero (a b : ByteArray) : EqTo a b 0 := fun j h => by omega
theorem getD_eq (a : ByteArray) (k : Nat) (h : k < a.size) : a.data.toList.getD k 0 = a[k] := by
  have : k < a.data.toList.length := by simpa using h
  simp [List.getD, List.getElem?_eq_getElem this]; rfl
theorem EqTo.succ {a b : ByteArray} {k : Nat} (h : EqTo a b k) (ha : k < a.size) (hb : k < b.size) (e : a[k] = b[k]) : EqTo a b (k + 1) := fun j hj => by
  by_cases hk : j = k
  · subst hk; rw [getD_eq a j ha, getD_eq b j hb, e]
  · exact h j (by omega)
theorem len_eq (a : ByteArray) : a.data.toList.length = a.size := by rw [Array.length_toList]; rfl
theorem EqTo.lt {a b : ByteArray} {k : Nat} (h : EqTo a b k) (ha : k < a.size) (hb : k < b.size) (e : (a[k].toNat : Int) < (b[k].toNat : Int)) : cmpB a b = -1 := by
  refine cmp_at_lt (k := k) (by rw [len_eq]; exact ha) (by rw [len_eq]; exact hb) h ?_
  rw [getD_eq a k ha, getD_eq b k hb, UInt8.lt_iff_toNat_lt]; omega
theorem EqTo.gt {a b : ByteArray} {k : Nat} (h : EqTo a b k) (ha : k < a.size) (hb : k < b.size) (e : (b[k].toNat : Int) < (a[k].toNat : Int)) : cmpB a b = 1 := by
  refine cmp_at_gt (k := k) (by rw [len_eq]; exact ha) (by rw [len_eq]; exact hb) h ?_
  rw [getD_eq a k ha, getD_eq b k hb, UInt8.lt_iff_toNat_lt]; omega
theorem u8_eq {x y : UInt8} (h : ¬ (x.toNat : Int) < (y.toNat : Int)) (k : ¬ (y.toNat : Int) < (x.toNat : Int)) : x = y := by
  rw [← UInt8.toNat_inj]; omega
theorem EqTo.ended {a b : ByteArray} {k : Nat} (h : EqTo a b k) (he : ¬ (k < a.size ∧ k < b.size)) :
    cmpB a b = if a.size < b.size then -1 else if b.size < a.size then 1 else 0 := by
  have := cmp_at_end (a := a.data.toList) (b := b.data.toList) (fun j h1 h2 => h j (by rw [len_eq] at h1 h2; omega))
  rw [len_eq, len_eq] at this; exact this
theorem EqTo.shared {a b : ByteArray} {k : Nat} (h : EqTo a b k) (ha : k ≤ a.size) (hb : k ≤ b.size) (hn : ∀ (x : k < a.size) (y : k < b.size), a[k] ≠ b[k]) : shared a.data.toList b.data.toList = k := by
  refine shared_of (by rw [len_eq]; exact ha) (by rw [len_eq]; exact hb) h ?_
  intro h1 h2
  rw [len_eq] at h1 h2
  rw [getD_eq a k h1, getD_eq b k h2]; exact hn h1 h2

theorem ret_pair {a b a' b' : Value} (h : a = a') (k : b = b') : Ending.returned (.tuple #[a, b]) = .returned (.tuple #[a', b']) := by rw [h, k]
theorem ret_int {k : IntKind} {a b : Int} (h : a = b) : Ending.returned (.int k a) = .returned (.int k b) := by rw [h]

theorem drewN2 (w : World) (n m : Nat) : ∃ k, (w.drewN n).drewN m = w.drewN k := ⟨n + m, by rw [World.drewN_drewN]⟩
theorem drewN3 (w : World) (n m l : Nat) : ∃ k, ((w.drewN n).drewN m).drewN l = w.drewN k := ⟨n + (m + l), by rw [World.drewN_drewN, World.drewN_drewN]⟩
theorem below_drewN (B : Nat) (w : World) (n : Nat) : Below B w (w.drewN n) := ⟨rfl, rfl, rfl, Nat.le_refl _, fun _ _ => rfl⟩

set_option maxHeartbeats 1000000 in
theorem RCompare_any (a b : ByteArray) (w : World) (ha : a.size ≤ maxLen) :
    Calls Try.prog 29 #[.string a, .string b] w fun e w' => e = .returned (.int .i64 (cmpB a b)) ∧ ∃ n, w' = w.drewN n := by
  unfold maxLen at ha
  go_enter Try.func29, Try.ntmps29
  go_wp2
  go_loopw [5] (fun i wr => ∃ k : Nat, k ≤ a.size ∧ k ≤ b.size ∧ i = .int .i64 k ∧ EqTo a b k ∧ ∃ n, wr = w.drewN n) (fun i _ => a.size - (intOf i).toNat)
  case atStart => exact ⟨0, Nat.zero_le _, Nat.zero_le _, rfl, EqTo.zero a b, 0, rfl⟩
  case round =>
    obtain ⟨k, hka, hkb, rfl, heq, n, rfl⟩ := hrel
    by_cases h1 : k < a.size
    · by_cases h2 : k < b.size
      · by_cases h3 : (a[k].toNat : Int) < (b[k].toNat : Int)
        · have HR := Lib.hid (heq.lt h1 h2 h3)
          go_wp2
          go_quiet (fail)
          go_wp2
          go_ret
          exact ⟨ret_int HR.out.symm, drewN2 _ _ _⟩
        · by_cases h4 : (b[k].toNat : Int) < (a[k].toNat : Int)
          · have HR := Lib.hid (heq.gt h1 h2 h4)
            go_wp2
            go_quiet (fail)
            go_wp2
            go_quiet (fail)
            go_wp2
            go_ret
            exact ⟨ret_int HR.out.symm, drewN3 _ _ _ _⟩
          · have HR := Lib.hid (heq.succ h1 h2 (u8_eq h3 h4))
            go_wp2
            go_quiet (fail)
            go_wp2
            go_quiet (fail)
            go_wp2
            go_roundw
            case rel => exact ⟨k + 1, by omega, by omega, by go_num, HR.out, _, rfl⟩
            case measure => simp [intOf]; omega
      · have HR := Lib.hid (heq.ended (by omega))
        go_wp2
        all_goals go_ret
        all_goals exact ⟨by rw [HR.out]; simp [*], _, rfl⟩
    · have HR := Lib.hid (heq.ended (by omega))
      go_wp2
      all_goals go_ret
      all_goals exact ⟨by rw [HR.out]; simp [*], _, rfl⟩

/-- a span as a value -/
abbrev spanV (lo hi : ByteArray) (top : Bool) : Value := .agg #[.string lo, .string hi, .bool top]
def inB (lo hi : ByteArray) (top : Bool) (key : ByteArray) : Bool := decide (cmpB lo key ≤ 0) && (top || decide (cmpB key hi < 0))
theorem ret_bool {a b : Bool} (h : a = b) : Ending.returned (.bool a) = .returned (.bool b) := by rw [h]

set_option maxHeartbeats 1000000 in
theorem RIn_any (lo hi : ByteArray) (top : Bool) (key : ByteArray) (w : World) (hl : lo.size ≤ maxLen) (hk : key.size ≤ maxLen) :
    Calls Try.prog 52 #[spanV lo hi top, .string key] w fun e w' => e = .returned (.bool (inB lo hi top key)) ∧ Below w.heap.size w w' := by
  by_cases h1 : cmpB lo key ≤ 0
  · cases top
    · have HR : Hid (inB lo hi false key = decide (cmpB key hi < 0)) := Lib.hid (by simp [inB, h1])
      go_enter Try.func52, Try.ntmps52
      go_wp2_with (go_at_call 29; refine (RCompare_any _ _ _ (by assumption)).mono ?_; rintro e w' ⟨rfl, n, rfl⟩)
      go_ret
      exact ⟨ret_bool (by rw [HR.out]), ((Below.refl _ _).alloc (Nat.le_refl _) _).trans (below_drewN _ _ _)⟩
    · have HR : Hid (inB lo hi true key = true) := Lib.hid (by simp [inB, h1])
      go_enter Try.func52, Try.ntmps52
      go_wp2_with (go_at_call 29; refine (RCompare_any _ _ _ (by assumption)).mono ?_; rintro e w' ⟨rfl, n, rfl⟩)
      go_ret
      exact ⟨ret_bool (by rw [HR.out]), ((Below.refl _ _).alloc (Nat.le_refl _) _).trans (below_drewN _ _ _)⟩
  · have HR : Hid (inB lo hi top key = false) := Lib.hid (by simp [inB, h1])
    have h1' : decide (cmpB lo key ≤ 0) = false := by simpa using h1
    go_enter Try.func52, Try.ntmps52
    go_wp2_with (go_at_call 29; refine (RCompare_any _ _ _ (by assumption)).mono ?_; rintro e w' ⟨rfl, n, rfl⟩)
    go_ret
    exact ⟨ret_bool (by rw [HR.out]), ((Below.refl _ _).alloc (Nat.le_refl _) _).trans (below_drewN _ _ _)⟩
end Lx
end Go.Proofs.Ytlabbmfiecbigaa

namespace Go.Proofs.Ytlabbmfiecbigaa
open Go.RowKit
namespace Bu
open Lx
theorem cmpB_trans {a b c : ByteArray} (h : cmpB a b < 0) (k : cmpB b c < 0) : cmpB a c < 0 := cmp_trans_lt h k
theorem cmpB_self (a : ByteArray) : cmpB a a = 0 := cmp_self _
theorem cmpB_neg (a b : ByteArray) : cmpB a b = -cmpB b a := cmp_neg _ _
theorem cmpB_zero {a b : ByteArray} (h : cmpB a b = 0) : a = b := by
  have := cmp_zero h
  cases a
  cases b
  simp only [ByteArray.mk.injEq] at *
  exact Array.ext' this
theorem cmpB_ne {a b : ByteArray} (h : cmpB a b < 0) : a ≠ b := fun e => by
  subst e
  rw [cmpB_self] at h
  omega
theorem cmpB_tri (a b : ByteArray) : cmpB a b < 0 ∨ a = b ∨ cmpB b a < 0 := by
  by_cases h : cmpB a b < 0
  · exact .inl h
  · by_cases k : cmpB b a < 0
    · exact .inr (.inr k)
    · have := cmpB_neg a b
      exact .inr (.inl (cmpB_zero (by omega)))
theorem RCmp (a b : ByteArray) (ha : a.size ≤ maxLen) (w : World) : Calls Try.prog 29 #[.string a, .string b] w fun e w' => e = .returned (.int .i64 (cmpB a b)) ∧ Below w.heap.size w w' :=
  (RCompare_any a b w ha).mono fun e w' ⟨he, n, hw⟩ => ⟨he, by rw [hw]; exact ⟨rfl, rfl, rfl, Nat.le_refl _, fun _ _ => rfl⟩⟩
end Bu
end Go.Proofs.Ytlabbmfiecbigaa

namespace Go.Proofs.Ytlabbmfiecbigaa
open Go.RowKit
namespace Lx

def emptyB (lo hi : ByteArray) (top : Bool) : Bool := !top && decide (cmpB hi lo ≤ 0)

theorem empty_in (lo hi : ByteArray) (top : Bool) : emptyB lo hi top = !inB lo hi top lo := by
  have h0 : cmpB lo lo ≤ 0 := by unfold cmpB; rw [cmp_self]; omega
  have h1 : cmpB lo hi = -cmpB hi lo := cmp_neg lo.data.toList hi.data.toList
  unfold emptyB inB
  cases top
  · have e : decide (cmpB lo hi < 0) = !decide (cmpB hi lo ≤ 0) := by
      rw [Bool.eq_iff_iff]; simp; omega
    simp [h0, e]
  · simp [h0]
end Lx
end Go.Proofs.Ytlabbmfiecbigaa

namespace Go.Proofs.Ytlabbmfiecbigaa
open Go.RowKit
namespace Lx
/-- the cut, as a text and whether there is one -/
def cutB (a b : ByteArray) : ByteArray × Bool :=
  if 0 ≤ cmpB a b then (⟨#[]⟩, false) else (b.extract 0 (shared a.data.toList b.data.toList + 1), true)
theorem cutB_none {a b : ByteArray} (h : 0 ≤ cmpB a b) : cutB a b = (⟨#[]⟩, false) := if_pos h
theorem cutB_some {a b : ByteArray} (h : ¬ 0 ≤ cmpB a b) : cutB a b = (b.extract 0 (shared a.data.toList b.data.toList + 1), true) := if_neg h
theorem extract_list (b : ByteArray) (k : Nat) : (b.extract 0 k).data.toList = b.data.toList.take k := by
  simp [ByteArray.data_extract]
end Lx
end Go.Proofs.Ytlabbmfiecbigaa

namespace Go.Proofs.Ytlabbmfiecbigaa
open Go.RowKit
namespace Lx

set_option maxHeartbeats 400000 in
set_option maxRecDepth 100000 in
theorem cmpString_any (a b : ByteArray) (w : World) :
    Calls Try.prog 73 #[.string a, .string b] w fun e w' => e = .returned (.int .i64 (cmpB a b)) ∧ w = w' := by
  go_enter Try.func73, Try.ntmps73
  go_wp2
  rw [run_callFunc_extern Try.func76 (by kernel_rfl) (by kernel_rfl) (by kernel_rfl) (e := Extern.BytealgCompare.compare) (by kernel_rfl), Lib.run_compareString]
  simp only [Result.andThen]
  rw [Oper.upon_value]
  go_wp2
  go_ret
  exact ⟨rfl, rfl⟩

set_option maxHeartbeats 400000 in
set_option maxRecDepth 100000 in
theorem stringsCompare_any (a b : ByteArray) (w : World) :
    Calls Try.prog 71 #[.string a, .string b] w fun e w' => e = .returned (.int .i64 (cmpB a b)) ∧ w = w' := by
  go_enter Try.func71, Try.ntmps71
  go_wp2_with (go_at_call 73; refine (cmpString_any _ _ _).mono ?_; rintro e w' ⟨rfl, rfl⟩)
  go_ret
  exact ⟨rfl, rfl⟩

set_option maxHeartbeats 400000 in
set_option maxRecDepth 100000 in
theorem Compare_any (a b : ByteArray) (w : World) :
    Calls Try.prog 63 #[.string a, .string b] w fun e w' => e = .returned (.int .i64 (cmpB a b)) ∧ w = w' := by
  go_enter Try.func63, Try.ntmps63
  go_wp2_with (go_at_call 71; refine (stringsCompare_any _ _ _).mono ?_; rintro e w' ⟨rfl, rfl⟩)
  go_ret
  exact ⟨rfl, rfl⟩
theorem CCmp (a b : ByteArray) (w : World) : Calls Try.prog 63 #[.string a, .string b] w fun e w' => e = .returned (.int .i64 (cmpB a b)) ∧ Below w.heap.size w w' :=
  (Compare_any a b w).mono fun e w' ⟨he, hw⟩ => ⟨he, by subst hw; exact Below.refl _ _⟩
end Lx
end Go.Proofs.Ytlabbmfiecbigaa

namespace Go.Proofs.Ytlabbmfiecbigaa
open Go.RowKit
namespace Lx

set_option maxHeartbeats 1000000 in
theorem REmpty_any (lo hi : ByteArray) (top : Bool) (w : World) (hl : lo.size ≤ maxLen) :
    Calls Try.prog 30 #[spanV lo hi top] w fun e w' => e = .returned (.bool (emptyB lo hi top)) ∧ Below w.heap.size w w' := by
  have HR := Lib.hid (empty_in lo hi top)
  go_enter Try.func30, Try.ntmps30
  go_wp2_with (go_at_call 52; refine (RIn_any _ _ _ _ _ ?_ ?_).mono ?_; assumption; assumption; rintro e w' ⟨rfl, hb⟩)
  go_ret
  exact ⟨ret_bool (by rw [HR.out]), ((Below.refl _ _).alloc (Nat.le_refl _) _).trans (hb.mono (by simp))⟩
end Lx
end Go.Proofs.Ytlabbmfiecbigaa
