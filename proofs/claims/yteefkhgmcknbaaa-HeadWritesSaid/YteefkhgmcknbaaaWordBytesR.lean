/-
  The document's word: Bytes.
-/
import Derived.Test.YteefkhgmcknbaaaWordPut
namespace Go.Proofs.Yteefkhgmcknbaaa
open Go.RowKit
namespace Wd
open Mem
/-- a new slice of bytes: whatever its place -/
def New (w w' : World) (l : List UInt8) (e : Ending) : Prop := ∃ (A : Option Addr) (c : Nat), e = .returned (.slice A l.length c) ∧ BL w' A l ∧ Below w.heap.size w w'
set_option maxHeartbeats 1000000 in
theorem RBytes_any (n : Int) (v : Nat) (w : World) (hv : v < 18446744073709551616) :
    Calls Try.prog 19 #[.int .i64 n, .int .u64 (v : Int)] w fun e w' => New w w' (putL [] n v) e := by
  have cW := fun w => Lib.hid (RWidth_any n w)
  cases hw : isW n with
  | false =>
    rw [hw] at cW
    have HR := Lib.hid (show putL [] n v = [] by simp [putL, hw])
    clear hw hv
    go_enter Try.func19, Try.ntmps19
    go_wp2_with (go_at_call 38; refine (cW _).out.mono ?_; rintro e w' ⟨rfl, rfl⟩)
    go_ret
    rw [HR.out]
    exact ⟨_, _, rfl, BL.nil _ _, (Below.refl _ _).alloc (Nat.le_refl _) _⟩
  | true =>
    rw [hw] at cW
    obtain ⟨wd, rfl⟩ : ∃ wd : Nat, n = wd := ⟨n.toNat, by have := isW_cases hw; omega⟩
    have hwd : wd ≤ 8 := by have := isW_cases hw; omega
    have HR := Lib.hid (show putL [] wd v = be wd v by simp [putL, hw])
    have HV := Lib.hid hv
    clear hw hv
    go_enter Try.func19, Try.ntmps19
    go_wp2_with (go_at_call 38; refine (cW _).out.mono ?_; rintro e w' ⟨rfl, rfl⟩)
    go_loopw [1, 5, 6] (fun x o i wr => ∃ (j m : Nat) (A : Option Addr) (c : Nat), j ≤ wd ∧ i = .int .i64 j ∧ x = .int .u64 (m : Int) ∧ o = .slice A j c ∧ Hid (m = v / 256 ^ j) ∧ Hid (BL wr A (be j v)) ∧ Hid (Below w.heap.size w wr)) (fun _ _ i _ => wd - (intOf i).toNat)
    case atStart => exact ⟨0, v, _, _, Nat.zero_le _, rfl, rfl, rfl, by unfold Hid; simp, BL.nil _ _, (Below.refl _ _).alloc (Nat.le_refl _) _⟩
    case round =>
      obtain ⟨j, m, A, c, hj, rfl, rfl, rfl, HM, HB, HW⟩ := hrel
      by_cases hlt : j < wd
      · obtain ⟨x, hx⟩ : ∃ x : UInt8, x = UInt8.ofNat (m % 256) := ⟨_, rfl⟩
        have hxm : ((m : Int) % 256) = (x.toNat : Int) := by rw [hx]; simp
        have HX := Lib.hid hx
        have HXM := Lib.hid hxm
        clear hx hxm
        go_wp2_with (at_builtin; refine wpList_append_bytes rfl (.tmp 20) (.tmp 21) _ rfl w.heap.size 5 Try.underlying27 u8info (.slice (some ⟨wr.heap.size, 0, none⟩) 1 1) [x] rfl ?_ A j c (be j v) rfl (be_length j v) (HB.out.alloc _) ?_ ?_ ?_)
        · have := Own.lit 5 wr w.heap.size [x] HW.out.size (by unfold maxLen; simp)
          rw [HXM.out]; exact this
        · simp; omega
        · simp; have := HW.out.size; omega
        intro v' w' ho hg _
        obtain ⟨A', c', rfl, hbl, _⟩ := ho.out.slice
        have hb' : Below w.heap.size w w' := (HW.out.alloc HW.out.size _).grown hg (by simp; have := HW.out.size; omega) (fun k hk => by
          have : wr.heap.size = k := by simpa [Value.ownBlock] using hk
          have := HW.out.size; omega)
        have HB' := Lib.hid hbl
        have HW' := Lib.hid hb'
        have e : (x :: be j v).length = j + 1 := by simp
        rw [e]
        clear hbl hb' hg ho e
        go_wp2
        have hm : m < 18446744073709551616 := by rw [HM.out]; exact Nat.lt_of_le_of_lt (Nat.div_le_self _ _) HV.out
        refine ⟨⟨j + 1, m / 256, A', c', hlt, by go_num, by simp [IntKind.wrap_u64]; omega, rfl, by have := HM.out; unfold Hid; rw [this, pow_div], ?_, HW'⟩, by simp [intOf]; omega⟩
        have := HB'.out
        rw [HX.out, HM.out] at this
        unfold Hid
        rw [be_cons]; exact this
      · obtain rfl : j = wd := by omega
        go_wp2
        go_ret
        rw [HR.out]
        exact ⟨A, c, by rw [be_length]; rfl, HB.out, HW.out⟩
end Wd
end Go.Proofs.Yteefkhgmcknbaaa
