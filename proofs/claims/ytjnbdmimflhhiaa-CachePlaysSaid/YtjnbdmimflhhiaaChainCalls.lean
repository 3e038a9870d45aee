/-
  Contracts of layer chain: Front, Back, Cut.
-/
import Derived.Test.YtjnbdmimflhhiaaChainTurn
import Derived.StillTailTactics
namespace Go.Proofs.Ytjnbdmimflhhiaa
open Go.RowKit
namespace Cn
open Mem

section
variable {w : World} {g b n : Nat} {l : List Nat}
theorem Cplace_in (h : Chn w g b n l) {i : Nat} (hi : i < n) : Calls Try.prog 63 #[.pointer (some ⟨g, 0, none⟩), .int .i64 (i : Int)] w fun e w' => e = .returned (.int .i64 0) ∧ w = w' := by
  obtain ⟨c, A, B, h1, h2⟩ := h
  exact place_in g b c n _ A B i w h1 (by omega) (by omega)
theorem Cplace_out (h : Chn w g b n l) {i : Int} (hi : ¬ (0 ≤ i ∧ i < n)) : Calls Try.prog 63 #[.pointer (some ⟨g, 0, none⟩), .int .i64 i] w fun e w' => e = .returned (.int .i64 4) ∧ w = w' := by
  obtain ⟨c, A, B, h1, h2⟩ := h
  exact place_out g b c n _ A B i w h1 hi
theorem Cend (h : Chn w g b n l) : Calls Try.prog 66 #[.pointer (some ⟨g, 0, none⟩)] w fun e w' => e = .returned (.int .i64 (n : Int)) ∧ w = w' := by
  obtain ⟨c, A, B, h1, h2⟩ := h
  exact end_any g b c n _ A B w h1

theorem Front_out (h : Chn w g b n l) {i : Int} (hi : ¬ (0 ≤ i ∧ i < n)) : Calls Try.prog 72 #[.pointer (some ⟨g, 0, none⟩), .int .i64 i] w fun e w' => e = .returned (.int .i64 4) ∧ w = w' := by
  have cP := Lib.hid (Cplace_out h hi)
  clear h hi
  go_enter Try.func72, Try.ntmps72
  go_wp2_with (go_at_call 63; refine cP.out.mono ?_; rintro e w' ⟨rfl, rfl⟩)
  go_ret
  exact ⟨rfl, rfl⟩
set_option maxHeartbeats 1000000 in
theorem Front_in (h : Chn w g b n l) {i : Nat} (hi : i < n) : Calls Try.prog 72 #[.pointer (some ⟨g, 0, none⟩), .int .i64 (i : Int)] w fun e w' => e = .returned (.int .i64 0) ∧ Chn w' g b n (i :: del l i) ∧ Flow.Into [g, b] w w' := by
  have cP := Lib.hid (Cplace_in h hi)
  have cL := Lib.hid (Cloosen h hi)
  have cJ := fun w (h : Chn w g b n (del l i)) => Lib.hid (Cjoin_front h hi (del_notin l i))
  have cE := fun w (h : Chn w g b n (del l i)) => Lib.hid (Cend h)
  clear h hi
  generalize del l i = l' at *
  go_enter Try.func72, Try.ntmps72
  go_wp2_with (first
    | (go_at_call 63; refine cP.out.mono ?_; rintro e w' ⟨rfl, rfl⟩)
    | (go_at_call 64; refine cL.out.mono ?_; rintro e w1 ⟨rfl, hc, hI⟩; have HC := Lib.hid hc; have HI := Lib.hid hI; clear hc hI)
    | (go_at_call 66; refine (cE _ HC.out).out.mono ?_; rintro e w' ⟨rfl, rfl⟩)
    | (go_at_call 65; refine (cJ _ HC.out).out.mono ?_; rintro e w2 ⟨rfl, hc, hI⟩; have HC2 := Lib.hid hc; have HI2 := Lib.hid hI; clear hc hI))
  go_ret
  exact ⟨rfl, HC2.out, HI.out.trans HI2.out⟩
theorem Back_out (h : Chn w g b n l) {i : Int} (hi : ¬ (0 ≤ i ∧ i < n)) : Calls Try.prog 32 #[.pointer (some ⟨g, 0, none⟩), .int .i64 i] w fun e w' => e = .returned (.int .i64 4) ∧ w = w' := by
  have cP := Lib.hid (Cplace_out h hi)
  clear h hi
  go_enter Try.func32, Try.ntmps32
  go_wp2_with (go_at_call 63; refine cP.out.mono ?_; rintro e w' ⟨rfl, rfl⟩)
  go_ret
  exact ⟨rfl, rfl⟩
/-- join behind the last one -/
theorem Cjoin_back {c : Nat} {A B : Nat → Nat} (h1 : ChW w g b c n (l.length : Int) A B) (h2 : Ring n A B l) {i : Nat} (hi : i < n) (hm : i ∉ l) : Calls Try.prog 65 #[.pointer (some ⟨g, 0, none⟩), .int .i64 (i : Int), .int .i64 (A n : Int)] w fun e w' => e = .returned (.tuple #[]) ∧ Chn w' g b n (l ++ [i]) ∧ Flow.Into [g, b] w w' := by
  have hlen := h2.len_le
  have hn := h1.hi
  have ha : A n ≤ n := by rw [h2.ends.2]; exact lst_lt h2.lt
  have hb : B (A n) = n := by
    have := (lk_split (l1 := l) (l2 := [])).1 (by simpa using h2.lk)
    rw [h2.ends.2]; exact this.2.1
  refine (join_any g b c n i (A n) _ A B w h1 (Nat.le_of_lt hi) ha (by omega) ⟨by omega, by omega⟩ ?_ (by omega)).mono fun e w' ⟨he, hc, hI⟩ => ⟨he, ⟨c, _, _, ?_, h2.back hi hm rfl rfl⟩, hI⟩
  · rw [h2.ends.2]
    rintro he
    rcases List.mem_cons.1 (lst_mem n l) with hp | hp
    · omega
    · exact hm (he ▸ hp)
  · simpa using hc
set_option maxRecDepth 100000 in
set_option maxHeartbeats 1000000 in
theorem Back_in (h : Chn w g b n l) {i : Nat} (hi : i < n) : Calls Try.prog 32 #[.pointer (some ⟨g, 0, none⟩), .int .i64 (i : Int)] w fun e w' => e = .returned (.int .i64 0) ∧ Chn w' g b n (del l i ++ [i]) ∧ Flow.Into [g, b] w w' := by
  have cP := Lib.hid (Cplace_in h hi)
  have cL := Lib.hid (Cloosen h hi)
  have HD := Lib.hid (del_notin l i)
  have HL := Lib.hid hi
  clear h hi
  generalize del l i = l' at *
  go_enter Try.func32, Try.ntmps32
  go_wp2_with (first
    | (go_at_call 63; refine cP.out.mono ?_; rintro e w' ⟨rfl, rfl⟩)
    | (go_at_call 64; refine cL.out.mono ?_; rintro e w1 ⟨rfl, hc, hI⟩; have HC := Lib.hid hc; have HI := Lib.hid hI; clear hc hI))
  obtain ⟨c, A, B, h1, h2⟩ := HC.out
  have hb2 : Below w1.heap.size w1 { w1 with drawn := w1.drawn + 1 } := ⟨rfl, rfl, rfl, Nat.le_refl _, fun _ _ => rfl⟩
  have HH := Lib.hid (h1.kept hb2)
  have HJ := Lib.hid (Cjoin_back (h1.kept hb2) h2 HL.out HD.out)
  have HE := Lib.hid (end_any g b c n _ A B _ (h1.kept hb2))
  have HIn : Hid (Flow.Into [g, b] w { w1 with drawn := w1.drawn + 1 }) := HI.out.trans (Flow.Into.of_below hb2)
  have d0 := HH.out.cells.1
  have d1 := HH.out.lk.cellA (i := n) (by omega)
  have hL : (n : Int) < (n : Int) + 1 := by omega
  generalize (A n : Int) = x at *
  clear h1 h2 hb2
  refine wp_region_still_tail 11 (by kernel_rfl) (by kernel_rfl) ?_
  simp only [List.take_succ_cons, List.take_zero, List.drop_succ_cons, List.drop_zero]
  generalize { w1 with drawn := w1.drawn + 1 } = w2 at *
  repeat (refine wpStill_step (fun K hK => ?_); go_simp; first | (refine hK _ ?_; clear hK K) | (refine ⟨_, HE.out.mono fun e w' ⟨he, hw⟩ => ⟨he, hw.symm⟩, hK _ ?_⟩; clear hK K))
  refine wpStill_nil ?_
  go_wp2_with (go_at_call 65; refine HJ.out.mono ?_; rintro e w2 ⟨rfl, hc, hI⟩; have HC2 := Lib.hid hc; have HI2 := Lib.hid hI; clear hc hI)
  go_ret
  exact ⟨rfl, HC2.out, HIn.out.trans HI2.out⟩
theorem Cut_out (h : Chn w g b n l) {i : Int} (hi : ¬ (0 ≤ i ∧ i < n)) : Calls Try.prog 68 #[.pointer (some ⟨g, 0, none⟩), .int .i64 i] w fun e w' => e = .returned (.int .i64 4) ∧ w = w' := by
  have cP := Lib.hid (Cplace_out h hi)
  clear h hi
  go_enter Try.func68, Try.ntmps68
  go_wp2_with (go_at_call 63; refine cP.out.mono ?_; rintro e w' ⟨rfl, rfl⟩)
  go_ret
  exact ⟨rfl, rfl⟩
theorem Cut_none (h : Chn w g b n l) {i : Nat} (hi : i < n) (hm : hasR l (i : Int) = false) : Calls Try.prog 68 #[.pointer (some ⟨g, 0, none⟩), .int .i64 (i : Int)] w fun e w' => e = .returned (.int .i64 9) ∧ w = w' := by
  have cP := Lib.hid (Cplace_in h hi)
  have cH := Lib.hid (CHas h i)
  rw [hm] at cH
  clear h hi hm
  go_enter Try.func68, Try.ntmps68
  go_wp2_with (first
    | (go_at_call 63; refine cP.out.mono ?_; rintro e w' ⟨rfl, rfl⟩)
    | (go_at_call 89; refine cH.out.mono ?_; rintro e w' ⟨rfl, rfl⟩))
  go_ret
  exact ⟨rfl, rfl⟩
theorem Cut_in (h : Chn w g b n l) {i : Nat} (hi : i < n) (hm : hasR l (i : Int) = true) : Calls Try.prog 68 #[.pointer (some ⟨g, 0, none⟩), .int .i64 (i : Int)] w fun e w' => e = .returned (.int .i64 0) ∧ Chn w' g b n (del l i) ∧ Flow.Into [g, b] w w' := by
  have cP := Lib.hid (Cplace_in h hi)
  have cH := Lib.hid (CHas h i)
  have cL := Lib.hid (Cloosen h hi)
  rw [hm] at cH
  clear h hi hm
  generalize del l i = l' at *
  go_enter Try.func68, Try.ntmps68
  go_wp2_with (first
    | (go_at_call 63; refine cP.out.mono ?_; rintro e w' ⟨rfl, rfl⟩)
    | (go_at_call 89; refine cH.out.mono ?_; rintro e w' ⟨rfl, rfl⟩)
    | (go_at_call 64; refine cL.out.mono ?_; rintro e w1 ⟨rfl, hc, hI⟩; have HC := Lib.hid hc; have HI := Lib.hid hI; clear hc hI))
  go_ret
  exact ⟨rfl, HC.out, HI.out⟩
/-- the three calls, whatever the number -/
theorem CFront (h : Chn w g b n l) (i : Int) : Calls Try.prog 72 #[.pointer (some ⟨g, 0, none⟩), .int .i64 i] w fun e w' => e = .returned (.int .i64 (errE n i)) ∧ Chn w' g b n (fronT n l i) ∧ Flow.Into [g, b] w w' := by
  unfold errE fronT
  cases hi : inN n i with
  | true =>
    obtain ⟨k, rfl, hk⟩ := inN_nat hi
    exact Front_in h hk
  | false => exact (Front_out h (inN_not hi)).mono fun e w' ⟨he, hw⟩ => ⟨he, hw ▸ h, hw ▸ Flow.Into.refl _ _⟩
theorem CBack (h : Chn w g b n l) (i : Int) : Calls Try.prog 32 #[.pointer (some ⟨g, 0, none⟩), .int .i64 i] w fun e w' => e = .returned (.int .i64 (errE n i)) ∧ Chn w' g b n (backT n l i) ∧ Flow.Into [g, b] w w' := by
  unfold errE backT
  cases hi : inN n i with
  | true =>
    obtain ⟨k, rfl, hk⟩ := inN_nat hi
    exact Back_in h hk
  | false => exact (Back_out h (inN_not hi)).mono fun e w' ⟨he, hw⟩ => ⟨he, hw ▸ h, hw ▸ Flow.Into.refl _ _⟩
theorem CCut (h : Chn w g b n l) (i : Int) : Calls Try.prog 68 #[.pointer (some ⟨g, 0, none⟩), .int .i64 i] w fun e w' => e = .returned (.int .i64 (cutE n l i)) ∧ Chn w' g b n (cutT n l i) ∧ Flow.Into [g, b] w w' := by
  unfold cutE cutT
  cases hi : inN n i with
  | true =>
    obtain ⟨k, rfl, hk⟩ := inN_nat hi
    cases hm : hasR l (k : Int) with
    | true => exact Cut_in h hk hm
    | false =>
      have : k ∉ l := by rw [hasR_nat] at hm; simpa using hm
      have e : del l ((k : Int)).toNat = l := del_none (by simpa using this)
      simp only [if_true, e]
      exact (Cut_none h hk hm).mono fun e w' ⟨he, hw⟩ => ⟨he, hw ▸ h, hw ▸ Flow.Into.refl _ _⟩
  | false => exact (Cut_out h (inN_not hi)).mono fun e w' ⟨he, hw⟩ => ⟨he, hw ▸ h, hw ▸ Flow.Into.refl _ _⟩
end
end Cn
end Go.Proofs.Ytjnbdmimflhhiaa
