/-
  Contracts of layer word: widths, Put, Fits, clone; the document's Width and Bytes.
-/
import Derived.Test.YteefkhgmcknbaaaProg
import Derived.Test.YteefkhgmcknbaaaWordPlain
import Derived.Test.YteefkhgmcknbaaaBytes
import Derived.WalkKit
import Derived.WalkLawsBesides
import Derived.KernelRfl
import Derived.Lib.Hide
namespace Go.Proofs.Yteefkhgmcknbaaa
open Go.RowKit
namespace Wd
open Mem

theorem isWidth_any (n : Int) (w : World) : Calls Try.prog 29 #[.int .i64 n] w fun e w' => e = .returned (.bool (isW n)) ∧ w = w' := by
  by_cases h1 : n = 1
  · subst h1; go_enter Try.func29, Try.ntmps29; go_wp2; go_ret; exact ⟨rfl, rfl⟩
  by_cases h2 : n = 2
  · subst h2; go_enter Try.func29, Try.ntmps29; go_wp2; go_ret; exact ⟨rfl, rfl⟩
  by_cases h4 : n = 4
  · subst h4; go_enter Try.func29, Try.ntmps29; go_wp2; go_ret; exact ⟨rfl, rfl⟩
  by_cases h8 : n = 8
  · subst h8; go_enter Try.func29, Try.ntmps29; go_wp2; go_ret; exact ⟨rfl, rfl⟩
  have HR := Lib.hid (show isW n = false by simp [isW, h1, h2, h4, h8])
  have g1 : (n == 1) = false := by simpa using h1
  have g2 : (n == 2) = false := by simpa using h2
  have g4 : (n == 4) = false := by simpa using h4
  have g8 : (n == 8) = false := by simpa using h8
  clear h1 h2 h4 h8
  go_enter Try.func29, Try.ntmps29
  go_wp2
  go_ret
  exact ⟨by rw [HR.out]; rfl, rfl⟩

theorem RWidth_any (n : Int) (w : World) : Calls Try.prog 38 #[.int .i64 n] w fun e w' => e = .returned (.bool (isW n)) ∧ w = w' := by
  by_cases h1 : n = 1
  · subst h1; go_enter Try.func38, Try.ntmps38; go_wp2; go_ret; exact ⟨rfl, rfl⟩
  by_cases h2 : n = 2
  · subst h2; go_enter Try.func38, Try.ntmps38; go_wp2; go_ret; exact ⟨rfl, rfl⟩
  by_cases h4 : n = 4
  · subst h4; go_enter Try.func38, Try.ntmps38; go_wp2; go_ret; exact ⟨rfl, rfl⟩
  by_cases h8 : n = 8
  · subst h8; go_enter Try.func38, Try.ntmps38; go_wp2; go_ret; exact ⟨rfl, rfl⟩
  have HR := Lib.hid (show isW n = false by simp [isW, h1, h2, h4, h8])
  have g1 : (n == 1) = false := by simpa using h1
  have g2 : (n == 2) = false := by simpa using h2
  have g4 : (n == 4) = false := by simpa using h4
  have g8 : (n == 8) = false := by simpa using h8
  clear h1 h2 h4 h8
  go_enter Try.func38, Try.ntmps38
  go_wp2
  go_ret
  exact ⟨by rw [HR.out]; rfl, rfl⟩

theorem u8info : (Try.prog.info? 5).map (fun i => (i.zero, i.size, i.bytes)) = some (some (.int .u8 0), 1, 1) := by kernel_rfl
theorem u8size : (Try.prog.info? 5).map (·.size) = some 1 := by kernel_rfl

/-- a new block of noughts -/
theorem run_makeBytes (n : Nat) (hn : n ≤ 140737488355328) (w : World) :
    (Instr.makeSlice 27 (.int .i64 (n : Int)) (.int .i64 (n : Int))).run Try.prog w = .ok (.slice (some ⟨w.heap.size, 0, none⟩) n n) (w.alloc (.cells (bytesV (List.replicate n 0)).toArray 5)) := by
  obtain ⟨i0, hi, hz, hs, hb⟩ := info_parts u8info
  have hr := run_make (P := Try.prog) w 27 5 i0 (.int .u8 0) Try.underlying27 hi hz .i64 .i64 n n (by omega) (by omega) (by rw [hb]; omega) (by omega)
  rw [hr, hs]
  simp only [Int.toNat_natCast, Nat.mul_one]
  rw [← madeCells_bytes (z := (Value.int IntKind.u8 0).cells) rfl n]


set_option maxHeartbeats 400000 in
theorem clone_any (p : Option Addr) (c : Nat) (l : List UInt8) (w : World) (h : BL w p l) (hl : l.length ≤ 140737488355328) :
    Calls Try.prog 40 #[.slice p l.length c] w fun e w' => e = .returned (.slice (some ⟨w.heap.size, 0, none⟩) l.length l.length) ∧ Row 5 w' w.heap.size l ∧ Below w.heap.size w w' := by
  have hmk := fun w => run_makeBytes l.length hl w
  obtain ⟨n, hn⟩ : ∃ n, n = l.length := ⟨_, rfl⟩
  rw [← hn] at hmk
  have HN := Lib.hid hn
  rw [← hn]
  clear hn hl
  go_enter Try.func40, Try.ntmps40
  go_wp2_with (with_reducible refine wpList_copy_bytes rfl (.tmp 7) (.tmp 8) _ _ rfl 5 Try.underlying27 u8size w.heap.size n n n c p rfl rfl (List.replicate n 0) l (Row.new _ _ _) HN.out.symm (h.alloc _) (Nat.le_refl _) (by simp) w.heap.size w ((Below.refl _ _).alloc (Nat.le_refl _) _) (Nat.le_refl _) ?_; intro w1 HR1 hb1)
  go_ret
  refine ⟨rfl, ?_, hb1⟩
  have := HR1.out
  rw [← HN.out] at this
  simpa using this

/-- Put, where there is such a width -/
theorem pow_div (v j : Nat) : v / 256 ^ j / 256 = v / 256 ^ (j + 1) := by rw [Nat.div_div_eq_div_mul, Nat.pow_succ]

set_option maxHeartbeats 1000000 in
theorem Put_width (p : Option Addr) (c : Nat) (l : List UInt8) (wd v : Nat) (w : World) (h : BL w p l) (hl : l.length ≤ 140737488355000) (hw : isW (wd : Int) = true) (hv : v < 18446744073709551616) :
    Calls Try.prog 15 #[.slice p l.length c, .int .i64 (wd : Int), .int .u64 (v : Int)] w fun e w' => e = .returned (.slice (some ⟨w.heap.size, 0, none⟩) (l.length + wd) (l.length + wd)) ∧ Row 5 w' w.heap.size (l ++ be wd v) ∧ Below w.heap.size w w' := by
  have hwd : wd ≤ 8 := by have := isW_cases hw; omega
  have hmk := fun w => run_makeBytes (l.length + wd) (by omega) w
  obtain ⟨n, hn⟩ : ∃ n, n = l.length := ⟨_, rfl⟩
  rw [← hn] at hmk
  have hl' : n ≤ 140737488355000 := by omega
  have HN := Lib.hid hn
  have cW := fun w => Lib.hid (isWidth_any wd w)
  rw [hw] at cW
  rw [← hn]
  clear hn hl hw
  rw [show ((n + wd : Nat) : Int) = (n : Int) + (wd : Int) from by omega] at hmk
  have HV := Lib.hid hv
  clear hv
  go_enter Try.func15, Try.ntmps15
  go_wp2_with (first
    | (go_at_call 29; refine (cW _).out.mono ?_; rintro e w' ⟨rfl, rfl⟩)
    | (with_reducible refine wpList_copy_bytes rfl (.tmp 17) (.tmp 18) _ _ rfl 5 Try.underlying27 u8size w.heap.size (n + wd) (n + wd) n c p rfl rfl (List.replicate (n + wd) 0) l (Row.new _ _ _) HN.out.symm (h.alloc _) (by omega) (by simp) w.heap.size w ((Below.refl _ _).alloc (Nat.le_refl _) _) (Nat.le_refl _) ?_; intro w1 HR1 hb1))
  go_loopw [2, 8] (fun vv i wr => ∃ (j m : Nat) (z : Int), j ≤ wd ∧ i = .int .i64 z ∧ vv = .int .u64 (m : Int) ∧ Hid (z = n + wd - j - 1) ∧ Hid (m = v / 256 ^ j) ∧ Row 5 wr w.heap.size (rowAt l wd v j) ∧ Below w.heap.size w wr) (fun _ i _ => (intOf i - n + 1).toNat)
  case atStart => exact ⟨0, v, _, Nat.zero_le _, rfl, rfl, by unfold Hid; omega, by unfold Hid; simp, by
    have := HR1.out
    rw [rowAt_zero]
    rw [← HN.out] at this
    simpa [Nat.add_sub_cancel_left] using this, hb1⟩
  case round =>
    obtain ⟨j, m, z, hj, rfl, rfl, HZ, HM, hrow, hbw⟩ := hrel
    by_cases hlt : j < wd
    · obtain ⟨q, hq⟩ : ∃ q, q = n + (wd - j - 1) := ⟨_, rfl⟩
      obtain rfl : z = (q : Int) := by have := HZ.out; omega
      have hq1 : n ≤ q := by omega
      have hq2 : q < n + wd := by omega
      have hlen : q < (rowAt l wd v j).length := by rw [rowAt_length _ _ hj, ← HN.out]; exact hq2
      have hcell := hrow.cell hlen
      have hfree := hrow.free q
      generalize ((rowAt l wd v j)[q].toNat : Int) = y at hcell
      have hset := fun z hz => Lib.hid (hrow.set hlen (UInt8.ofNat (m % 256)) (z := z) hz)
      have HB := Lib.hid hbw
      have HQ := Lib.hid hq
      clear hrow hbw hq hlen
      go_wp2
      refine ⟨⟨j + 1, m / 256, _, hlt, rfl, by simp, by have := HZ.out; unfold Hid; omega, by have := HM.out; unfold Hid; rw [this, pow_div], ?_, HB.out.setCell (Nat.le_refl _) _⟩, by simp [intOf]; omega⟩
      have h1 := (hset (↑m % 256) (by simp)).out
      rw [HQ.out, HM.out, HN.out, rowAt_succ l hlt] at h1
      rw [HQ.out, HM.out, HN.out]
      exact h1
    · obtain rfl : j = wd := by omega
      obtain rfl : z = (n : Int) - 1 := by have := HZ.out; omega
      have HR := Lib.hid hrow
      have HB := Lib.hid hbw
      clear hrow hbw
      go_wp2
      go_ret
      have h1 := HR.out
      rw [rowAt_all] at h1
      exact ⟨rfl, h1, HB.out⟩

set_option maxHeartbeats 400000 in
/-- Put, where there is no such width -/
theorem Put_none (p : Option Addr) (c : Nat) (l : List UInt8) (n v : Int) (w : World) (h : BL w p l) (hl : l.length ≤ 140737488355000) (hw : isW n = false) :
    Calls Try.prog 15 #[.slice p l.length c, .int .i64 n, .int .u64 v] w fun e w' => e = .returned (.slice (some ⟨w.heap.size, 0, none⟩) l.length l.length) ∧ Row 5 w' w.heap.size l ∧ Below w.heap.size w w' := by
  have hmk := fun w => run_makeBytes l.length (by omega) w
  obtain ⟨k, hk⟩ : ∃ k, k = l.length := ⟨_, rfl⟩
  rw [← hk] at hmk
  have hl' : k ≤ 140737488355000 := by omega
  have HK := Lib.hid hk
  have cW := fun w => Lib.hid (isWidth_any n w)
  rw [hw] at cW
  rw [← hk]
  clear hk hl hw
  go_enter Try.func15, Try.ntmps15
  go_wp2_with (first
    | (go_at_call 29; refine (cW _).out.mono ?_; rintro e w' ⟨rfl, rfl⟩)
    | (with_reducible refine wpList_copy_bytes rfl (.tmp 17) (.tmp 18) _ _ rfl 5 Try.underlying27 u8size w.heap.size k k k c p rfl rfl (List.replicate k 0) l (Row.new _ _ _) HK.out.symm (h.alloc _) (Nat.le_refl _) (by simp) w.heap.size w ((Below.refl _ _).alloc (Nat.le_refl _) _) (Nat.le_refl _) ?_; intro w1 HR1 hb1))
  go_loopw [8] (fun i wr => i = .int .i64 ((k : Int) - 1) ∧ wr = w1) (fun _ _ => 0)
  case atStart => exact ⟨rfl, rfl⟩
  case round =>
    obtain ⟨rfl, rfl⟩ := hrel
    go_wp2
    go_ret
    refine ⟨rfl, ?_, hb1⟩
    have := HR1.out
    rw [← HK.out] at this
    simpa using this

/-- Put of whatever width: what it answers -/
def putL (l : List UInt8) (n : Int) (v : Nat) : List UInt8 := if isW n then l ++ be n.toNat v else l
theorem Put_any (p : Option Addr) (c : Nat) (l : List UInt8) (n : Int) (v : Nat) (w : World) (h : BL w p l) (hl : l.length ≤ 140737488355000) (hv : v < 18446744073709551616) :
    Calls Try.prog 15 #[.slice p l.length c, .int .i64 n, .int .u64 (v : Int)] w fun e w' => e = .returned (.slice (some ⟨w.heap.size, 0, none⟩) (putL l n v).length (putL l n v).length) ∧ Row 5 w' w.heap.size (putL l n v) ∧ Below w.heap.size w w' := by
  cases hw : isW n with
  | true =>
    obtain ⟨wd, rfl⟩ : ∃ wd : Nat, n = wd := ⟨n.toNat, by have := isW_cases hw; omega⟩
    have e : putL l wd v = l ++ be wd v := by simp [putL, hw]
    rw [e]
    refine (Put_width p c l wd v w h hl hw hv).mono ?_
    rintro e w' ⟨rfl, h1, h2⟩
    exact ⟨by simp, h1, h2⟩
  | false =>
    have e : putL l n v = l := by simp [putL, hw]
    rw [e]
    exact Put_none p c l n v w h hl hw

theorem ret_bool {a b : Bool} (h : a = b) : Ending.returned (.bool a) = .returned (.bool b) := by rw [h]

end Wd
end Go.Proofs.Yteefkhgmcknbaaa
