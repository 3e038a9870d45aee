/-
  WordStands, walked.
-/
import Derived.Test.YtkambkdpppgjpaaWordAwake
import Derived.Lib.Strings
import Derived.WalkLawsBesides
namespace Go.Proofs.Ytkambkdpppgjpaa
open Go.RowKit
namespace Wd
open Mem

/-- what Put of nothing leaves at an event -/
def NewRow (n : Nat) (l : List UInt8) (v : Value) (W : World) : Prop := ∃ g, v = .slice (some ⟨g, 0, none⟩) n n ∧ Row 5 W g l
theorem bl_but {S : List Nat} {w : World} {A : Option Addr} {l : List UInt8} (h : BL w A l) (hn : 0 < l.length → ∀ a, A = some a → a.block ∉ S) (q : Flow.But) : BL (Flow.but S w q) A l :=
  h.keep fun hl a ha => (Flow.into_but S w q).block _ (h.lt hl a ha) (hn hl a ha)

/-- the bytes stand as the numbers do -/
theorem be_mod (n v : Nat) : be n v = be n (v % 256 ^ n) := by
  have h := be_val (be n v)
  rw [be_length, val_be] at h
  exact h.symm
theorem be_inj {n a b : Nat} (ha : a < 256 ^ n) (hb : b < 256 ^ n) (h : be n a = be n b) : a = b := by
  have := congrArg val h
  rwa [val_be, val_be, Nat.mod_eq_of_lt ha, Nat.mod_eq_of_lt hb] at this
theorem be_less (n : Nat) : ∀ a b : Nat, a < 256 ^ n → b < 256 ^ n → Op.bytesLess (be n a) (be n b) = decide (a < b) := by
  induction n with
  | zero => intro a b ha hb; simp at ha hb; subst ha hb; rfl
  | succ n ih =>
    intro a b ha hb
    have hp : 0 < 256 ^ n := Nat.pow_pos (by decide)
    rw [Nat.pow_succ] at ha hb
    have ha1 : a / 256 ^ n < 256 := Nat.div_lt_of_lt_mul (by rw [Nat.mul_comm] at ha; rw [Nat.mul_comm]; exact ha)
    have hb1 : b / 256 ^ n < 256 := Nat.div_lt_of_lt_mul (by rw [Nat.mul_comm] at hb; rw [Nat.mul_comm]; exact hb)
    rw [be_cons, be_cons, Nat.mod_eq_of_lt ha1, Nat.mod_eq_of_lt hb1, be_mod n a, be_mod n b, Op.bytesLess, ih _ _ (Nat.mod_lt _ hp) (Nat.mod_lt _ hp)]
    have ea := Nat.div_add_mod a (256 ^ n)
    have eb := Nat.div_add_mod b (256 ^ n)
    have ma := Nat.mod_lt a hp
    have mb := Nat.mod_lt b hp
    generalize a / 256 ^ n = x at *
    generalize b / 256 ^ n = y at *
    generalize a % 256 ^ n = u at *
    generalize b % 256 ^ n = v at *
    generalize 256 ^ n = p at *
    have hx : (UInt8.ofNat x < UInt8.ofNat y) ↔ x < y := by rw [UInt8.lt_iff_toNat_lt]; simp [Nat.mod_eq_of_lt ha1, Nat.mod_eq_of_lt hb1]
    have he : (UInt8.ofNat x == UInt8.ofNat y) = decide (x = y) := by
      rw [Bool.eq_iff_iff]; simp [← UInt8.toNat_inj, Nat.mod_eq_of_lt ha1, Nat.mod_eq_of_lt hb1]
    rw [he, Bool.eq_iff_iff]
    simp only [Bool.or_eq_true, Bool.and_eq_true, decide_eq_true_eq, hx]
    rcases Nat.lt_trichotomy x y with h | h | h
    · have h1 : p * (x + 1) ≤ p * y := Nat.mul_le_mul_left _ h
      rw [Nat.mul_succ] at h1
      constructor
      · intro _; omega
      · intro _; exact .inl h
    · subst h
      constructor
      · rintro (h | ⟨_, h⟩) <;> omega
      · intro h; exact .inr ⟨rfl, by omega⟩
    · have h1 : p * (y + 1) ≤ p * x := Nat.mul_le_mul_left _ h
      rw [Nat.mul_succ] at h1
      constructor
      · rintro (h | ⟨h, _⟩) <;> omega
      · intro _; omega
theorem fit_lt {wd v : Nat} (h : fitB wd v = true) : v < 256 ^ wd := by
  unfold fitB at h
  simp only [Bool.and_eq_true, decide_eq_true_eq, Int.toNat_natCast] at h
  exact h.2

/-- the table of widths -/
theorem widths (k : Nat) : ∃ (r : Int) (n : Int), (k : Int) % 4 = r ∧ isW n = true ∧ 0 < n ∧ n ≤ 8 ∧ ∀ w, (Instr.index 54 (.agg #[.int .i64 1, .int .i64 2, .int .i64 4, .int .i64 8]) (.int .u8 r)).run Try.prog w = .ok (.int .i64 n) w := by
  have : (k : Int) % 4 = 0 ∨ (k : Int) % 4 = 1 ∨ (k : Int) % 4 = 2 ∨ (k : Int) % 4 = 3 := by omega
  rcases this with h | h | h | h
  · exact ⟨0, 1, h, rfl, by decide, by decide, fun _ => by kernel_rfl⟩
  · exact ⟨1, 2, h, rfl, by decide, by decide, fun _ => by kernel_rfl⟩
  · exact ⟨2, 4, h, rfl, by decide, by decide, fun _ => by kernel_rfl⟩
  · exact ⟨3, 8, h, rfl, by decide, by decide, fun _ => by kernel_rfl⟩

set_option maxHeartbeats 4000000 in
theorem WordStands_walk (a b k : Nat) (w : World) (ha : a < 18446744073709551616) (hb : b < 18446744073709551616) (hk : k < 256) :
    Calls Try.prog 6 #[.int .u64 (a : Int), .int .u64 (b : Int), .int .u8 (k : Int)] w fun e w' => e = .returned (.bool true) ∧ Below w.heap.size w w' := by
  have cA := fun w => Lib.hid (awake_any w)
  obtain ⟨r, n, hr, hw, hn0, hn8, hix⟩ := widths k
  obtain ⟨wd, rfl⟩ : ∃ wd : Nat, n = wd := ⟨n.toNat, by omega⟩
  have hwd : wd ≤ 8 := by omega
  have cFa := fun w => Lib.hid (Fits_any wd a w ha)
  have cFb := fun w => Lib.hid (Fits_any wd b w hb)
  have cPa := fun w => Lib.hid (Put_width none 0 [] wd a w (BL.nil _ _) (by decide) hw ha)
  have cPb := fun w => Lib.hid (Put_width none 0 [] wd b w (BL.nil _ _) (by decide) hw hb)
  simp only [List.length_nil, Nat.zero_add, List.nil_append] at cPa cPb
  have HA := Lib.hid ha
  have HB := Lib.hid hb
  have HW := Lib.hid hw
  clear ha hb hk hw hn0 hn8
  cases hfa : fitB wd a with
  | false =>
    rw [hfa] at cFa
    clear hfa
    go_enter Try.func6, Try.ntmps6
    go_wp2_with (first
      | (go_at_call_of 12 (Value.int .u64 (a : Int)); refine (cFa _).out.mono ?_; rintro e w1 ⟨rfl, rfl⟩)
      | (go_at_call 8; refine (cA _).out.mono ?_; rintro e w8 ⟨rfl, hb⟩; have HB8 := Lib.hid hb; clear hb))
    go_ret
    exact ⟨rfl, HB8.out⟩
  | true =>
    rw [hfa] at cFa
    cases hfb : fitB wd b with
    | false =>
      rw [hfb] at cFb
      clear hfa hfb
      go_enter Try.func6, Try.ntmps6
      go_wp2_with (first
        | (go_at_call_of 12 (Value.int .u64 (a : Int)); refine (cFa _).out.mono ?_; rintro e w1 ⟨rfl, rfl⟩)
        | (go_at_call 12; refine (cFb _).out.mono ?_; rintro e w1 ⟨rfl, rfl⟩)
        | (go_at_call 8; refine (cA _).out.mono ?_; rintro e w8 ⟨rfl, hb⟩; have HB8 := Lib.hid hb; clear hb))
      go_ret
      exact ⟨rfl, HB8.out⟩
    | true =>
      rw [hfb] at cFb
      have HFA := Lib.hid hfa
      have HFB := Lib.hid hfb
      clear hfa hfb
      go_enter Try.func6, Try.ntmps6
      go_wp2_with (first
        | (go_at_call_of 12 (Value.int .u64 (a : Int)); refine (cFa _).out.mono ?_; rintro e w1 ⟨rfl, rfl⟩)
        | (go_at_call 12; refine (cFb _).out.mono ?_; rintro e w1 ⟨rfl, rfl⟩))
      refine Flow.wp_region_flow [] [0, 1, 4, 5, 2, 3, 6, 7, 8, 9] [2, 6] (by kernel_rfl) (by kernel_rfl) (by simp) ?_
      simp only [Flow.pick, List.getElem?_cons_zero, List.getElem?_cons_succ, List.cons_append, List.nil_append]
      repeat (refine Flow.walk_step (fun K hK => ?_); go_simp; (refine hK _ ?_; clear hK K))
      refine Flow.walk_event rfl (NewRow wd (be wd a)) (fun W hW => ?_) ?_
      · go_simp
        exact (cPa _).out.mono fun e w' ⟨he, h1, h2⟩ => ⟨_, he, ⟨_, rfl, h1⟩, Flow.Into.of_below h2⟩
      rintro v w1 ⟨g, rfl, hrow⟩ hI
      have HROW := Lib.hid hrow
      have HI := Lib.hid hI
      have rt := fun q => run_text_n (P := Try.prog) Try.underlying22 Try.underlying5 Try.underlying9 (bl_but (S := []) hrow.bl (fun _ _ _ => by simp) q) (be_length wd a) wd
      clear hrow hI
      repeat (refine Flow.walk_step (fun K hK => ?_); go_simp; (refine hK _ ?_; clear hK K))
      refine Flow.walk_event rfl (NewRow wd (be wd b)) (fun W hW => ?_) ?_
      · go_simp
        exact (cPb _).out.mono fun e w' ⟨he, h1, h2⟩ => ⟨_, he, ⟨_, rfl, h1⟩, Flow.Into.of_below h2⟩
      rintro v w2 ⟨g2, rfl, hrow⟩ hI
      have HROW2 := Lib.hid hrow
      have HI2 := Lib.hid hI
      have rt2 := fun q => run_text_n (P := Try.prog) Try.underlying22 Try.underlying5 Try.underlying9 (bl_but (S := []) hrow.bl (fun _ _ _ => by simp) q) (be_length wd b) wd
      clear hrow hI rt
      repeat (refine Flow.walk_step (fun K hK => ?_); go_simp; (refine hK _ ?_; clear hK K))
      clear rt2
      refine Flow.walk_nil ?_
      intro w3 hb3
      have HB3 := Lib.hid hb3
      clear hb3
      simp only [List.length_cons, List.length_nil, List.drop_succ_cons, List.drop_zero, List.drop_nil, Nat.zero_add, Nat.reduceAdd]
      have f1 : Op.bytesLess (strOf (be wd a)).toList (strOf (be wd b)).toList = decide (a < b) := by
        rw [Lib.toList_data, Lib.toList_data]; exact be_less wd a b (fit_lt HFA.out) (fit_lt HFB.out)
      have f2 : ((strOf (be wd a)).toList == (strOf (be wd b)).toList) = ((a : Int) == (b : Int)) := by
        rw [Lib.toList_data, Lib.toList_data, Bool.eq_iff_iff]
        simp only [strOf, beq_iff_eq]
        constructor
        · intro h; rw [be_inj (fit_lt HFA.out) (fit_lt HFB.out) h]
        · intro h; rw [show a = b by omega]
      have f3 : (strOf (be wd a)).size = wd := by rw [strOf_size, be_length]
      go_wp2_with (go_at_call 8; refine (cA _).out.mono ?_; rintro e w8 ⟨rfl, hb⟩; have HB8 := Lib.hid hb; clear hb)
      go_ret
      exact ⟨rfl, below_trans (below_trans (below_trans HI.out.below HI2.out.below) HB3.out) HB8.out⟩
end Wd
end Go.Proofs.Ytkambkdpppgjpaa
