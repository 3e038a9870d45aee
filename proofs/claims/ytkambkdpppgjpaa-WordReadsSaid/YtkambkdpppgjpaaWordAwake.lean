/-
  Layer word: the page's examples.
-/
import Derived.Test.YtkambkdpppgjpaaWordRead2
import Derived.WalkSpells
namespace Go.Proofs.Ytkambkdpppgjpaa
open Go.RowKit
namespace Wd
open Mem

/-- what Open leaves, as a world that has only grown -/
theorem below_trans {a b c : World} (h : Below a.heap.size a b) (k : Below b.heap.size b c) : Below a.heap.size a c := h.trans (k.mono h.size)
/-- only what is new has turned -/
theorem below_only {a b c : World} {g : Nat} (h : Below a.heap.size a b) (k : Only g b c) (hg : a.heap.size ≤ g) : Below a.heap.size a c :=
  ⟨k.os.trans h.os, k.tape.trans h.tape, k.output.trans h.output, Nat.le_trans h.size k.size, fun i hi => (k.block i (Nat.lt_of_lt_of_le hi h.size) (by simp; omega)).trans (h.block i hi)⟩

theorem awake_text : textS ⟨[97, 0, 0], 0⟩ 1 3 = (⟨[], 0⟩, [97]) := by rfl

set_option maxHeartbeats 400000 in
theorem awake_any (w : World) : Calls Try.prog 8 #[] w fun e w' => e = .returned (.bool true) ∧ Below w.heap.size w w' := by
  have hb0 : BL (w.alloc (.cells #[.int .u8 97, .int .u8 0, .int .u8 0] 5)) (some ⟨w.heap.size, 0, none⟩) [97, 0, 0] := (Row.new 5 w [97, 0, 0]).bl
  have cO := Lib.hid (Open_any _ 3 _ _ hb0 (by decide))
  have cP : ∀ w, Hid (Calls Try.prog 9 #[.slice none 0 0, .int .i64 2, .int .u64 258] w fun e w' => e = .returned (.slice (some ⟨w.heap.size, 0, none⟩) 2 2) ∧ Row 5 w' w.heap.size [1, 2] ∧ Below w.heap.size w w') :=
    fun w => Lib.hid (Put_any none 0 [] 2 258 w (BL.nil _ _) (by decide) (by decide))
  have cT : ∀ g w, Rd 61 w g ⟨[97, 0, 0], 0⟩ → Hid (Calls Try.prog 19 #[.pointer (some ⟨g, 0, none⟩), .int .i64 1, .int .i64 3] w fun e w' => e = .returned (.string ⟨#[97]⟩) ∧ Rd 61 w' g ⟨[], 0⟩ ∧ Only g w w') :=
    fun g w h => Lib.hid (Text_any g ⟨[97, 0, 0], 0⟩ 1 3 w h)
  have cE : ∀ g w, Rd 61 w g ⟨[], 0⟩ → Hid (Calls Try.prog 24 #[.pointer (some ⟨g, 0, none⟩)] w fun e w' => e = .returned (.int .i64 0) ∧ w = w') :=
    fun g w h => Lib.hid (End_any g ⟨[], 0⟩ w h)
  clear hb0
  go_enter Try.func8, Try.ntmps8
  go_wp2_with (first
    | (go_at_call 13; refine cO.out.mono ?_; rintro e w1 ⟨g, rfl, hr, hg, hb⟩; have HR := Lib.hid hr; have HG := Lib.hid hg; have HB := Lib.hid hb; clear hr hg hb)
    | (go_at_call 9; refine (cP _).out.mono ?_; rintro e w2 ⟨rfl, hrow, hb⟩; have rt : (convert 22 9 (.slice (some ⟨w1.heap.size, 0, none⟩) 2 2)).run Try.prog w2 = .ok (.string ⟨#[1, 2]⟩) w2 := run_text_n (P := Try.prog) Try.underlying22 Try.underlying5 Try.underlying9 hrow.bl rfl 2; have HB2 := Lib.hid hb; clear hrow hb)
    | (go_at_call 19; refine (cT _ _ (HR.out.keep HB2.out)).out.mono ?_; rintro e w3 ⟨rfl, hr, ho⟩; have HR3 := Lib.hid hr; have HO3 := Lib.hid ho; clear hr ho)
    | (go_at_call 24; refine (cE _ _ HR3.out).out.mono ?_; rintro e w4 ⟨rfl, rfl⟩))
  go_ret
  have h0 : Below w.heap.size w w1 := below_trans ((Below.refl _ _).alloc (Nat.le_refl _) _) HB.out
  exact ⟨rfl, below_only (below_trans h0 HB2.out) HO3.out (by have := HG.out; simp at this; omega)⟩

/-- a new slice of bytes: whatever its place -/
def New (w w' : World) (l : List UInt8) (e : Ending) : Prop := ∃ (A : Option Addr) (c : Nat), e = .returned (.slice A l.length c) ∧ BL w' A l ∧ Below w.heap.size w w'

set_option maxHeartbeats 1000000 in
theorem RBytes_any (n : Int) (v : Nat) (w : World) (hv : v < 18446744073709551616) :
    Calls Try.prog 10 #[.int .i64 n, .int .u64 (v : Int)] w fun e w' => New w w' (putL [] n v) e := by
  have cW := fun w => Lib.hid (RWidth_any n w)
  cases hw : isW n with
  | false =>
    rw [hw] at cW
    have HR := Lib.hid (show putL [] n v = [] by simp [putL, hw])
    clear hw hv
    go_enter Try.func10, Try.ntmps10
    go_wp2_with (go_at_call 11; refine (cW _).out.mono ?_; rintro e w' ⟨rfl, rfl⟩)
    go_ret
    rw [HR.out]
    exact ⟨_, _, rfl, BL.nil _ _, (Below.refl _ _).alloc (Nat.le_refl _) _⟩
  | true =>
    rw [hw] at cW
    obtain ⟨wd, rfl⟩ : ∃ wd : Nat, n = wd := ⟨n.toNat, by have := isW_cases hw; omega⟩
    have hwd : wd ≤ 8 := by have := isW_cases hw; omega
    have HR := Lib.hid (show putL [] wd v = be wd v by simp [putL, hw])
    have HV := Lib.hid hv
    clear hw hv
    go_enter Try.func10, Try.ntmps10
    go_wp2_with (go_at_call 11; refine (cW _).out.mono ?_; rintro e w' ⟨rfl, rfl⟩)
    go_loopw [1, 5, 6] (fun x o i wr => ∃ (j m : Nat) (A : Option Addr) (c : Nat), j ≤ wd ∧ i = .int .i64 j ∧ x = .int .u64 (m : Int) ∧ o = .slice A j c ∧ Hid (m = v / 256 ^ j) ∧ Hid (BL wr A (be j v)) ∧ Hid (Below w.heap.size w wr)) (fun _ _ i _ => wd - (intOf i).toNat)
    case atStart => exact ⟨0, v, _, _, Nat.zero_le _, rfl, rfl, rfl, by unfold Hid; simp, BL.nil _ _, (Below.refl _ _).alloc (Nat.le_refl _) _⟩
    case round =>
      obtain ⟨j, m, A, c, hj, rfl, rfl, rfl, HM, HB, HW⟩ := hrel
      by_cases hlt : j < wd
      · obtain ⟨x, hx⟩ : ∃ x : UInt8, x = UInt8.ofNat (m % 256) := ⟨_, rfl⟩
        have hxm : ((m : Int) % 256) = (x.toNat : Int) := by rw [hx]; simp
        have HX := Lib.hid hx
        have HXM := Lib.hid hxm
        clear hx hxm
        go_wp2_with (at_builtin; refine wpList_append_bytes rfl (.tmp 20) (.tmp 21) _ rfl w.heap.size 5 Try.underlying22 u8info (.slice (some ⟨wr.heap.size, 0, none⟩) 1 1) [x] rfl ?_ A j c (be j v) rfl (be_length j v) (HB.out.alloc _) ?_ ?_ ?_)
        · have := Own.lit 5 wr w.heap.size [x] HW.out.size (by unfold maxLen; simp)
          rw [HXM.out]; exact this
        · simp; omega
        · simp; have := HW.out.size; omega
        intro v' w' ho hg _
        obtain ⟨A', c', rfl, hbl, _⟩ := ho.out.slice
        have hb' : Below w.heap.size w w' := (HW.out.alloc HW.out.size _).grown hg (by simp; have := HW.out.size; omega) (fun k hk => by
          have : wr.heap.size = k := by simpa [Value.ownBlock] using hk
          have := HW.out.size; omega)
        have HB' := Lib.hid hbl
        have HW' := Lib.hid hb'
        have e : (x :: be j v).length = j + 1 := by simp
        rw [e]
        clear hbl hb' hg ho e
        go_wp2
        have hm : m < 18446744073709551616 := by rw [HM.out]; exact Nat.lt_of_le_of_lt (Nat.div_le_self _ _) HV.out
        refine ⟨⟨j + 1, m / 256, A', c', hlt, by go_num, by simp [IntKind.wrap_u64]; omega, rfl, by have := HM.out; unfold Hid; rw [this, pow_div], ?_, HW'⟩, by simp [intOf]; omega⟩
        have := HB'.out
        rw [HX.out, HM.out] at this
        unfold Hid
        rw [be_cons]; exact this
      · obtain rfl : j = wd := by omega
        go_wp2
        go_ret
        rw [HR.out]
        exact ⟨A, c, by rw [be_length]; rfl, HB.out, HW.out⟩
end Wd
end Go.Proofs.Ytkambkdpppgjpaa
