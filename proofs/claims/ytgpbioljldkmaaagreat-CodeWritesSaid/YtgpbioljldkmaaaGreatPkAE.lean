/-
  OrdR, OrdP, CmpC, OrdC, SpanC. Put together by pack.py.
-/
import Derived.Test.YtgpbioljldkmaaaGreatProg
import Derived.Test.YtgpbioljldkmaaaGreatLexPlain
import Derived.WalkKit
import Derived.WalkLawsBesides
import Derived.KernelRfl
import Derived.Deep.QuietTactic
import Derived.BigQuiet
import Derived.Lib.QuietBelow
import Derived.Lib.Hide
import Derived.Test.YtgpbioljldkmaaaGreatPkAB
import Derived.Lib.MinMaxS
import Derived.Deep.RegionHeld3

namespace Go.Proofs.YtgpbioljldkmaaaGreat
open Go.RowKit
namespace Lx

abbrev cmpB (a b : ByteArray) : Int := Lib.compareBytes a.data.toList b.data.toList

/-- the first k bytes of both are alike (kept from the walk) -/
def EqTo (a b : ByteArray) (k : Nat) : Prop := ∀ j, j < k → a.data.toList.getD j 0 = b.data.toList.getD j 0
theorem EqTo.zero (a b : ByteArray) : EqTo a b 0 := fun j h => by omega
theorem getD_eq (a : ByteArray) (k : Nat) (h : k < a.size) : a.data.toList.getD k 0 = a[k] := by
  have : k < a.data.toList.length := by simpa using h
  simp [List.getD, List.getElem?_eq_getElem this]; rfl
theorem EqTo.succ {a b : ByteArray} {k : Nat} (h : EqTo a b k) (ha : k < a.size) (hb : k < b.size) (e : a[k] = b[k]) : EqTo a b (k + 1) := fun j hj => by
  by_cases hk : j = k
  · subst hk; rw [getD_eq a j ha, getD_eq b j hb, e]
  · exact h j (by omega)
theorem len_eq (a : ByteArray) : a.data.toList.length = a.size := by rw [Array.length_toList]; rfl
theorem EqTo.lt {a b : ByteArray} {k : Nat} (h : EqTo a b k) (ha : k < a.size) (hb : k < b.size) (e : (a[k].toNat : Int) < (b[k].toNat : Int)) : cmpB a b = -1 := by
  refine cmp_at_lt (k := k) (by rw [len_eq]; exact ha) (by rw [len_eq]; exact hb) h ?_
  rw [getD_eq a k ha, getD_eq b k hb, UInt8.lt_iff_toNat_lt]; omega
theorem EqTo.gt {a b : ByteArray} {k : Nat} (h : EqTo a b k) (ha : k < a.size) (hb : k < b.size) (e : (b[k].toNat : Int) < (a[k].toNat : Int)) : cmpB a b = 1 := by
  refine cmp_at_gt (k := k) (by rw [len_eq]; exact ha) (by rw [len_eq]; exact hb) h ?_
  rw [getD_eq a k ha, getD_eq b k hb, UInt8.lt_iff_toNat_lt]; omega
theorem u8_eq {x y : UInt8} (h : ¬ (x.toNat : Int) < (y.toNat : Int)) (k : ¬ (y.toNat : Int) < (x.toNat : Int)) : x = y := by
  rw [← UInt8.toNat_inj]; omega
theorem EqTo.ended {a b : ByteArray} {k : Nat} (h : EqTo a b k) (he : ¬ (k < a.size ∧ k < b.size)) :
    cmpB a b = if a.size < b.size then -1 else if b.size < a.size then 1 else 0 := by
  have := cmp_at_end (a := a.data.toList) (b := b.data.toList) (fun j h1 h2 => h j (by rw [len_eq] at h1 h2; omega))
  rw [len_eq, len_eq] at this; exact this

theorem ret_int {k : IntKind} {a b : Int} (h : a = b) : Ending.returned (.int k a) = .returned (.int k b) := by rw [h]

theorem drewN2 (w : World) (n m : Nat) : ∃ k, (w.drewN n).drewN m = w.drewN k := ⟨n + m, by rw [World.drewN_drewN]⟩
theorem drewN3 (w : World) (n m l : Nat) : ∃ k, ((w.drewN n).drewN m).drewN l = w.drewN k := ⟨n + (m + l), by rw [World.drewN_drewN, World.drewN_drewN]⟩
theorem below_drewN (B : Nat) (w : World) (n : Nat) : Below B w (w.drewN n) := ⟨rfl, rfl, rfl, Nat.le_refl _, fun _ _ => rfl⟩

set_option maxHeartbeats 1000000 in
theorem RCompare_any (a b : ByteArray) (w : World) (ha : a.size ≤ maxLen) :
    Calls Tryz.prog 95 #[.string a, .string b] w fun e w' => e = .returned (.int .i64 (cmpB a b)) ∧ ∃ n, w' = w.drewN n := by
  unfold maxLen at ha
  go_enter Tryz.func95, Tryz.ntmps95
  go_wp2
  go_loopw [5] (fun i wr => ∃ k : Nat, k ≤ a.size ∧ k ≤ b.size ∧ i = .int .i64 k ∧ EqTo a b k ∧ ∃ n, wr = w.drewN n) (fun i _ => a.size - (intOf i).toNat)
  case atStart => exact ⟨0, Nat.zero_le _, Nat.zero_le _, rfl, EqTo.zero a b, 0, rfl⟩
  case round =>
    obtain ⟨k, hka, hkb, rfl, heq, n, rfl⟩ := hrel
    by_cases h1 : k < a.size
    · by_cases h2 : k < b.size
      · by_cases h3 : (a[k].toNat : Int) < (b[k].toNat : Int)
        · have HR := Lib.hid (heq.lt h1 h2 h3)
          go_wp2
          go_quiet (fail)
          go_wp2
          go_ret
          exact ⟨ret_int HR.out.symm, drewN2 _ _ _⟩
        · by_cases h4 : (b[k].toNat : Int) < (a[k].toNat : Int)
          · have HR := Lib.hid (heq.gt h1 h2 h4)
            go_wp2
            go_quiet (fail)
            go_wp2
            go_quiet (fail)
            go_wp2
            go_ret
            exact ⟨ret_int HR.out.symm, drewN3 _ _ _ _⟩
          · have HR := Lib.hid (heq.succ h1 h2 (u8_eq h3 h4))
            go_wp2
            go_quiet (fail)
            go_wp2
            go_quiet (fail)
            go_wp2
            go_roundw
            case rel => exact ⟨k + 1, by omega, by omega, by go_num, HR.out, _, rfl⟩
            case measure => simp [intOf]; omega
      · have HR := Lib.hid (heq.ended (by omega))
        go_wp2
        all_goals go_ret
        all_goals exact ⟨by rw [HR.out]; simp [*], _, rfl⟩
    · have HR := Lib.hid (heq.ended (by omega))
      go_wp2
      all_goals go_ret
      all_goals exact ⟨by rw [HR.out]; simp [*], _, rfl⟩

/-- a span as a value -/
abbrev spanV (lo hi : ByteArray) (top : Bool) : Value := .agg #[.string lo, .string hi, .bool top]
def inB (lo hi : ByteArray) (top : Bool) (key : ByteArray) : Bool := decide (cmpB lo key ≤ 0) && (top || decide (cmpB key hi < 0))
theorem ret_bool {a b : Bool} (h : a = b) : Ending.returned (.bool a) = .returned (.bool b) := by rw [h]

set_option maxHeartbeats 1000000 in
theorem RIn_any (lo hi : ByteArray) (top : Bool) (key : ByteArray) (w : World) (hl : lo.size ≤ maxLen) (hk : key.size ≤ maxLen) :
    Calls Tryz.prog 78 #[spanV lo hi top, .string key] w fun e w' => e = .returned (.bool (inB lo hi top key)) ∧ Below w.heap.size w w' := by
  by_cases h1 : cmpB lo key ≤ 0
  · cases top
    · have HR : Hid (inB lo hi false key = decide (cmpB key hi < 0)) := Lib.hid (by simp [inB, h1])
      go_enter Tryz.func78, Tryz.ntmps78
      go_wp2_with (go_at_call 95; refine (RCompare_any _ _ _ (by assumption)).mono ?_; rintro e w' ⟨rfl, n, rfl⟩)
      go_ret
      exact ⟨ret_bool (by rw [HR.out]), ((Below.refl _ _).alloc (Nat.le_refl _) _).trans (below_drewN _ _ _)⟩
    · have HR : Hid (inB lo hi true key = true) := Lib.hid (by simp [inB, h1])
      go_enter Tryz.func78, Tryz.ntmps78
      go_wp2_with (go_at_call 95; refine (RCompare_any _ _ _ (by assumption)).mono ?_; rintro e w' ⟨rfl, n, rfl⟩)
      go_ret
      exact ⟨ret_bool (by rw [HR.out]), ((Below.refl _ _).alloc (Nat.le_refl _) _).trans (below_drewN _ _ _)⟩
  · have HR : Hid (inB lo hi top key = false) := Lib.hid (by simp [inB, h1])
    have h1' : decide (cmpB lo key ≤ 0) = false := by simpa using h1
    go_enter Tryz.func78, Tryz.ntmps78
    go_wp2_with (go_at_call 95; refine (RCompare_any _ _ _ (by assumption)).mono ?_; rintro e w' ⟨rfl, n, rfl⟩)
    go_ret
    exact ⟨ret_bool (by rw [HR.out]), ((Below.refl _ _).alloc (Nat.le_refl _) _).trans (below_drewN _ _ _)⟩
end Lx
end Go.Proofs.YtgpbioljldkmaaaGreat

namespace Go.Proofs.YtgpbioljldkmaaaGreat
open Go.RowKit
namespace Bu
open Lx
theorem cmpB_trans {a b c : ByteArray} (h : cmpB a b < 0) (k : cmpB b c < 0) : cmpB a c < 0 := cmp_trans_lt h k
theorem cmpB_self (a : ByteArray) : cmpB a a = 0 := cmp_self _
theorem cmpB_neg (a b : ByteArray) : cmpB a b = -cmpB b a := cmp_neg _ _
theorem cmpB_zero {a b : ByteArray} (h : cmpB a b = 0) : a = b := by
  have := cmp_zero h
  cases a
  cases b
  simp only [ByteArray.mk.injEq] at *
  exact Array.ext' this
theorem cmpB_ne {a b : ByteArray} (h : cmpB a b < 0) : a ≠ b := fun e => by
  subst e
  rw [cmpB_self] at h
  omega
theorem cmpB_tri (a b : ByteArray) : cmpB a b < 0 ∨ a = b ∨ cmpB b a < 0 := by
  by_cases h : cmpB a b < 0
  · exact .inl h
  · by_cases k : cmpB b a < 0
    · exact .inr (.inr k)
    · have := cmpB_neg a b
      exact .inr (.inl (cmpB_zero (by omega)))
theorem RCmp (a b : ByteArray) (ha : a.size ≤ maxLen) (w : World) : Calls Tryz.prog 95 #[.string a, .string b] w fun e w' => e = .returned (.int .i64 (cmpB a b)) ∧ Below w.heap.size w w' :=
  (RCompare_any a b w ha).mono fun e w' ⟨he, n, hw⟩ => ⟨he, by rw [hw]; exact ⟨rfl, rfl, rfl, Nat.le_refl _, fun _ _ => rfl⟩⟩
end Bu
end Go.Proofs.YtgpbioljldkmaaaGreat

namespace Go.Proofs.YtgpbioljldkmaaaGreat
open Go.RowKit
namespace Lx

set_option maxHeartbeats 400000 in
set_option maxRecDepth 100000 in
theorem cmpString_any (a b : ByteArray) (w : World) :
    Calls Tryz.prog 107 #[.string a, .string b] w fun e w' => e = .returned (.int .i64 (cmpB a b)) ∧ w = w' := by
  go_enter Tryz.func107, Tryz.ntmps107
  go_wp2
  rw [run_callFunc_extern Tryz.func119 (by kernel_rfl) (by kernel_rfl) (by kernel_rfl) (e := Extern.BytealgCompare.compare) (by kernel_rfl), Lib.run_compareString]
  simp only [Result.andThen]
  rw [Oper.upon_value]
  go_wp2
  go_ret
  exact ⟨rfl, rfl⟩

set_option maxHeartbeats 400000 in
set_option maxRecDepth 100000 in
theorem stringsCompare_any (a b : ByteArray) (w : World) :
    Calls Tryz.prog 103 #[.string a, .string b] w fun e w' => e = .returned (.int .i64 (cmpB a b)) ∧ w = w' := by
  go_enter Tryz.func103, Tryz.ntmps103
  go_wp2_with (go_at_call 107; refine (cmpString_any _ _ _).mono ?_; rintro e w' ⟨rfl, rfl⟩)
  go_ret
  exact ⟨rfl, rfl⟩

set_option maxHeartbeats 400000 in
set_option maxRecDepth 100000 in
theorem Compare_any (a b : ByteArray) (w : World) :
    Calls Tryz.prog 98 #[.string a, .string b] w fun e w' => e = .returned (.int .i64 (cmpB a b)) ∧ w = w' := by
  go_enter Tryz.func98, Tryz.ntmps98
  go_wp2_with (go_at_call 103; refine (stringsCompare_any _ _ _).mono ?_; rintro e w' ⟨rfl, rfl⟩)
  go_ret
  exact ⟨rfl, rfl⟩
theorem CCmp (a b : ByteArray) (w : World) : Calls Tryz.prog 98 #[.string a, .string b] w fun e w' => e = .returned (.int .i64 (cmpB a b)) ∧ Below w.heap.size w w' :=
  (Compare_any a b w).mono fun e w' ⟨he, hw⟩ => ⟨he, by subst hw; exact Below.refl _ _⟩
end Lx
end Go.Proofs.YtgpbioljldkmaaaGreat

namespace Go.Proofs.YtgpbioljldkmaaaGreat
open Go.RowKit
namespace Lx

set_option maxHeartbeats 1000000 in
set_option maxRecDepth 100000 in
theorem In_any (lo hi : ByteArray) (top : Bool) (key : ByteArray) (w : World) :
    Calls Tryz.prog 97 #[spanV lo hi top, .string key] w fun e w' => e = .returned (.bool (inB lo hi top key)) ∧ Below w.heap.size w w' := by
  by_cases h1 : cmpB lo key ≤ 0
  · cases top
    · have HR : Hid (inB lo hi false key = decide (cmpB key hi < 0)) := Lib.hid (by simp [inB, h1])
      go_enter Tryz.func97, Tryz.ntmps97
      go_wp2_with (go_at_call 98; refine (Compare_any _ _ _).mono ?_; rintro e w' ⟨rfl, rfl⟩)
      go_ret
      exact ⟨ret_bool (by rw [HR.out]), (Below.refl _ _).alloc (Nat.le_refl _) _⟩
    · have HR : Hid (inB lo hi true key = true) := Lib.hid (by simp [inB, h1])
      go_enter Tryz.func97, Tryz.ntmps97
      go_wp2_with (go_at_call 98; refine (Compare_any _ _ _).mono ?_; rintro e w' ⟨rfl, rfl⟩)
      go_ret
      exact ⟨ret_bool (by rw [HR.out]), (Below.refl _ _).alloc (Nat.le_refl _) _⟩
  · have HR : Hid (inB lo hi top key = false) := Lib.hid (by simp [inB, h1])
    have h1' : decide (cmpB lo key ≤ 0) = false := by simpa using h1
    go_enter Tryz.func97, Tryz.ntmps97
    go_wp2_with (go_at_call 98; refine (Compare_any _ _ _).mono ?_; rintro e w' ⟨rfl, rfl⟩)
    go_ret
    exact ⟨ret_bool (by rw [HR.out]), (Below.refl _ _).alloc (Nat.le_refl _) _⟩
end Lx
end Go.Proofs.YtgpbioljldkmaaaGreat

namespace Go.Proofs.YtgpbioljldkmaaaGreat
open Go.RowKit
namespace Lx



set_option maxHeartbeats 1000000 in
theorem All_any (w : World) :
    Calls Tryz.prog 33 #[] w fun e w' => e = .returned (spanV ⟨#[]⟩ ⟨#[]⟩ true) ∧ Below w.heap.size w w' := by
  go_enter Tryz.func33, Tryz.ntmps33
  go_wp2
  exact bodyPost_ret (v := spanV ⟨#[]⟩ ⟨#[]⟩ true) (by simp [results, Tryz.results33, go_sem]) rfl ⟨rfl, (Below.refl _ _).alloc (Nat.le_refl _) _⟩










end Lx
end Go.Proofs.YtgpbioljldkmaaaGreat
