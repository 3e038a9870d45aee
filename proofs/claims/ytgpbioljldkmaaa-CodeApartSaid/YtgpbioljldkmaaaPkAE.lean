/-
  OrdR, OrdP, CmpC, OrdC, SpanC. Put together by pack.py.
-/
import Derived.Test.YtgpbioljldkmaaaProg
import Derived.Test.YtgpbioljldkmaaaLexPlain
import Derived.WalkKit
import Derived.WalkLawsBesides
import Derived.KernelRfl
import Derived.Deep.QuietTactic
import Derived.BigQuiet
import Derived.Lib.QuietBelow
import Derived.Lib.Hide
import Derived.Test.YtgpbioljldkmaaaPkAB
import Derived.Lib.MinMaxS
import Derived.Deep.RegionHeld3

namespace Go.Proofs.Ytgpbioljldkmaaa
open Go.RowKit
namespace Lx

abbrev cmpB (a b : ByteArray) : Int := Lib.compareBytes a.data.toList b.data.toList

/-- the first k bytes of both are alike (kept from the walk) -/
def EqTo (a b : ByteArray) (k : Nat) : Prop := ∀ j, j < k → a.data.toList.getD j 0 = b.data.toList.getD j 0
theorem EqTo.zero (a b : ByteArray) : EqTo a b 0 := fun j h => by omega
theorem getD_eq (a : ByteArray) (k : Nat) (h : k < a.size) : a.data.toList.getD k 0 = a[k] := by
  have : k < a.data.toList.length := by simpa using h
  simp [List.getD, List.getElem?_eq_getElem this]; rfl
theorem EqTo.succ {a b : ByteArray} {k : Nat} (h : EqTo a b k) (ha : k < a.size) (hb : k < b.size) (e : a[k] = b[k]) : EqTo a b (k + 1) := fun j hj => by
  by_cases hk : j = k
  · subst hk; rw [getD_eq a j ha, getD_eq b j hb, e]
  · exact h j (by omega)
theorem len_eq (a : ByteArray) : a.data.toList.length = a.size := by rw [Array.length_toList]; rfl
theorem EqTo.lt {a b : ByteArray} {k : Nat} (h : EqTo a b k) (ha : k < a.size) (hb : k < b.size) (e : (a[k].toNat : Int) < (b[k].toNat : Int)) : cmpB a b = -1 := by
  refine cmp_at_lt (k := k) (by rw [len_eq]; exact ha) (by rw [len_eq]; exact hb) h ?_
  rw [getD_eq a k ha, getD_eq b k hb, UInt8.lt_iff_toNat_lt]; omega
theorem EqTo.gt {a b : ByteArray} {k : Nat} (h : EqTo a b k) (ha : k < a.size) (hb : k < b.size) (e : (b[k].toNat : Int) < (a[k].toNat : Int)) : cmpB a b = 1 := by
  refine cmp_at_gt (k := k) (by rw [len_eq]; exact ha) (by rw [len_eq]; exact hb) h ?_
  rw [getD_eq a k ha, getD_eq b k hb, UInt8.lt_iff_toNat_lt]; omega




/-- a span as a value -/
abbrev spanV (lo hi : ByteArray) (top : Bool) : Value := .agg #[.string lo, .string hi, .bool top]
def inB (lo hi : ByteArray) (top : Bool) (key : ByteArray) : Bool := decide (cmpB lo key ≤ 0) && (top || decide (cmpB key hi < 0))
theorem ret_bool {a b : Bool} (h : a = b) : Ending.returned (.bool a) = .returned (.bool b) := by rw [h]

end Lx
end Go.Proofs.Ytgpbioljldkmaaa

namespace Go.Proofs.Ytgpbioljldkmaaa
open Go.RowKit
namespace Bu
open Lx
theorem cmpB_trans {a b c : ByteArray} (h : cmpB a b < 0) (k : cmpB b c < 0) : cmpB a c < 0 := cmp_trans_lt h k
theorem cmpB_self (a : ByteArray) : cmpB a a = 0 := cmp_self _
theorem cmpB_neg (a b : ByteArray) : cmpB a b = -cmpB b a := cmp_neg _ _
theorem cmpB_zero {a b : ByteArray} (h : cmpB a b = 0) : a = b := by
  have := cmp_zero h
  cases a
  cases b
  simp only [ByteArray.mk.injEq] at *
  exact Array.ext' this
theorem cmpB_ne {a b : ByteArray} (h : cmpB a b < 0) : a ≠ b := fun e => by
  subst e
  rw [cmpB_self] at h
  omega
theorem cmpB_tri (a b : ByteArray) : cmpB a b < 0 ∨ a = b ∨ cmpB b a < 0 := by
  by_cases h : cmpB a b < 0
  · exact .inl h
  · by_cases k : cmpB b a < 0
    · exact .inr (.inr k)
    · have := cmpB_neg a b
      exact .inr (.inl (cmpB_zero (by omega)))
end Bu
end Go.Proofs.Ytgpbioljldkmaaa

namespace Go.Proofs.Ytgpbioljldkmaaa
open Go.RowKit
namespace Lx

set_option maxHeartbeats 400000 in
set_option maxRecDepth 100000 in
theorem cmpString_any (a b : ByteArray) (w : World) :
    Calls Try.prog 77 #[.string a, .string b] w fun e w' => e = .returned (.int .i64 (cmpB a b)) ∧ w = w' := by
  go_enter Try.func77, Try.ntmps77
  go_wp2
  rw [run_callFunc_extern Try.func89 (by kernel_rfl) (by kernel_rfl) (by kernel_rfl) (e := Extern.BytealgCompare.compare) (by kernel_rfl), Lib.run_compareString]
  simp only [Result.andThen]
  rw [Oper.upon_value]
  go_wp2
  go_ret
  exact ⟨rfl, rfl⟩

set_option maxHeartbeats 400000 in
set_option maxRecDepth 100000 in
theorem stringsCompare_any (a b : ByteArray) (w : World) :
    Calls Try.prog 73 #[.string a, .string b] w fun e w' => e = .returned (.int .i64 (cmpB a b)) ∧ w = w' := by
  go_enter Try.func73, Try.ntmps73
  go_wp2_with (go_at_call 77; refine (cmpString_any _ _ _).mono ?_; rintro e w' ⟨rfl, rfl⟩)
  go_ret
  exact ⟨rfl, rfl⟩

set_option maxHeartbeats 400000 in
set_option maxRecDepth 100000 in
theorem Compare_any (a b : ByteArray) (w : World) :
    Calls Try.prog 68 #[.string a, .string b] w fun e w' => e = .returned (.int .i64 (cmpB a b)) ∧ w = w' := by
  go_enter Try.func68, Try.ntmps68
  go_wp2_with (go_at_call 73; refine (stringsCompare_any _ _ _).mono ?_; rintro e w' ⟨rfl, rfl⟩)
  go_ret
  exact ⟨rfl, rfl⟩
theorem CCmp (a b : ByteArray) (w : World) : Calls Try.prog 68 #[.string a, .string b] w fun e w' => e = .returned (.int .i64 (cmpB a b)) ∧ Below w.heap.size w w' :=
  (Compare_any a b w).mono fun e w' ⟨he, hw⟩ => ⟨he, by subst hw; exact Below.refl _ _⟩
end Lx
end Go.Proofs.Ytgpbioljldkmaaa

namespace Go.Proofs.Ytgpbioljldkmaaa
open Go.RowKit
namespace Lx

set_option maxHeartbeats 1000000 in
set_option maxRecDepth 100000 in
theorem In_any (lo hi : ByteArray) (top : Bool) (key : ByteArray) (w : World) :
    Calls Try.prog 67 #[spanV lo hi top, .string key] w fun e w' => e = .returned (.bool (inB lo hi top key)) ∧ Below w.heap.size w w' := by
  by_cases h1 : cmpB lo key ≤ 0
  · cases top
    · have HR : Hid (inB lo hi false key = decide (cmpB key hi < 0)) := Lib.hid (by simp [inB, h1])
      go_enter Try.func67, Try.ntmps67
      go_wp2_with (go_at_call 68; refine (Compare_any _ _ _).mono ?_; rintro e w' ⟨rfl, rfl⟩)
      go_ret
      exact ⟨ret_bool (by rw [HR.out]), (Below.refl _ _).alloc (Nat.le_refl _) _⟩
    · have HR : Hid (inB lo hi true key = true) := Lib.hid (by simp [inB, h1])
      go_enter Try.func67, Try.ntmps67
      go_wp2_with (go_at_call 68; refine (Compare_any _ _ _).mono ?_; rintro e w' ⟨rfl, rfl⟩)
      go_ret
      exact ⟨ret_bool (by rw [HR.out]), (Below.refl _ _).alloc (Nat.le_refl _) _⟩
  · have HR : Hid (inB lo hi top key = false) := Lib.hid (by simp [inB, h1])
    have h1' : decide (cmpB lo key ≤ 0) = false := by simpa using h1
    go_enter Try.func67, Try.ntmps67
    go_wp2_with (go_at_call 68; refine (Compare_any _ _ _).mono ?_; rintro e w' ⟨rfl, rfl⟩)
    go_ret
    exact ⟨ret_bool (by rw [HR.out]), (Below.refl _ _).alloc (Nat.le_refl _) _⟩
end Lx
end Go.Proofs.Ytgpbioljldkmaaa

namespace Go.Proofs.Ytgpbioljldkmaaa
open Go.RowKit
namespace Lx



set_option maxHeartbeats 1000000 in
theorem All_any (w : World) :
    Calls Try.prog 22 #[] w fun e w' => e = .returned (spanV ⟨#[]⟩ ⟨#[]⟩ true) ∧ Below w.heap.size w w' := by
  go_enter Try.func22, Try.ntmps22
  go_wp2
  exact bodyPost_ret (v := spanV ⟨#[]⟩ ⟨#[]⟩ true) (by simp [results, Try.results22, go_sem]) rfl ⟨rfl, (Below.refl _ _).alloc (Nat.le_refl _) _⟩










end Lx
end Go.Proofs.Ytgpbioljldkmaaa
