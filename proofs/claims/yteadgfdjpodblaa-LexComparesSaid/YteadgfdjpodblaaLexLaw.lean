/-
  The laws of layer lex: what they share: long, awake.
-/
import Derived.Test.YteadgfdjpodblaaLexSpan
namespace Go.Proofs.Yteadgfdjpodblaa
open Go.RowKit
namespace Lx

def longB (ss : List ByteArray) : Bool := ss.any fun s => decide (2000 < s.size)
/-- the first k texts are short (kept from the walk) -/
def ShortTo (ss : List ByteArray) (k : Nat) : Prop := ∀ j, j < k → (ss.getD j .empty).size ≤ 2000
theorem ShortTo.ended {ss : List ByteArray} (h : ShortTo ss ss.length) : longB ss = false := by
  unfold longB
  rw [List.any_eq_false]
  intro s hs
  obtain ⟨j, hj, rfl⟩ := List.getElem_of_mem hs
  have := h j hj
  simp [List.getD, hj] at this
  simpa using this
theorem longB_at {ss : List ByteArray} {k : Nat} (hk : k < ss.length) (h : 2000 < (ss.getD k .empty).size) : longB ss = true := by
  unfold longB
  rw [List.any_eq_true]
  refine ⟨ss[k], List.getElem_mem hk, ?_⟩
  simp [List.getD, hk] at h
  simpa using h
theorem longB_all {ss : List ByteArray} (h : longB ss = false) : ∀ s ∈ ss, s.size ≤ 2000 := by
  unfold longB at h
  rw [List.any_eq_false] at h
  intro s hs
  simpa using h s hs

set_option maxHeartbeats 1000000 in
theorem long_any (ss : List ByteArray) (b : Nat) (w : World) (hn : ss.length ≤ 1000) (hc : ∀ j, j < ss.length → w.cell? ⟨b, j, none⟩ = some (.string (ss.getD j .empty))) :
    Calls Try.prog 7 #[.slice (some ⟨b, 0, none⟩) ss.length ss.length] w fun e w' => e = .returned (.bool (longB ss)) ∧ w = w' := by
  have HC := Lib.hid hc
  clear hc
  generalize hlen : ss.length = len at *
  have HL := Lib.hid hlen
  clear hlen
  go_enter Try.func7, Try.ntmps7
  go_wp2
  go_loop [3] (fun i => ∃ k : Nat, k ≤ len ∧ i = .int .i64 k ∧ ShortTo ss k) (fun i => len - (intOf i).toNat)
  case atStart => exact ⟨0, Nat.zero_le _, rfl, fun j h => by omega⟩
  case round =>
    obtain ⟨k, hk, rfl, hsh⟩ := hrel
    by_cases h1 : k < len
    · obtain ⟨x, hx⟩ : ∃ x, ss.getD k .empty = x := ⟨_, rfl⟩
      have hcell := HC.out k h1
      rw [hx] at hcell
      have HX := Lib.hid hx
      clear hx
      by_cases h2 : 2000 < x.size
      · have HR := Lib.hid (longB_at (ss := ss) (k := k) (by rw [HL.out]; exact h1) (by rw [HX.out]; exact h2))
        go_wp2
        go_ret
        exact ⟨ret_bool HR.out.symm, rfl⟩
      · have HR : Hid (ShortTo ss (k + 1)) := Lib.hid (fun j hj => by
          by_cases e : j = k
          · subst e; rw [HX.out]; omega
          · exact hsh j (by omega))
        go_wp2
        go_round
        case rel => exact ⟨k + 1, by omega, by go_num, HR.out⟩
        case measure => simp [intOf]; omega
    · have HR := Lib.hid (ShortTo.ended (ss := ss) (by rw [HL.out, show len = k by omega]; exact hsh))
      go_wp2
      go_ret
      exact ⟨ret_bool HR.out.symm, rfl⟩

abbrev abc : ByteArray := ⟨#[97, 98, 99]⟩
abbrev abx : ByteArray := ⟨#[97, 98, 120]⟩
theorem Cut_awake (w : World) : Calls Try.prog 9 #[.string abc, .string abx] w fun e w' => e = .returned (.tuple #[.string abx, .bool true]) ∧ ∃ n, w' = w.drewN n := by
  have h : cutB abc abx = (abx, true) := by kernel_rfl
  have := Cut_any abc abx w (by decide) (by decide)
  rw [h] at this; exact this
theorem Shared_awake (w : World) : Calls Try.prog 13 #[.string abc, .string abx] w fun e w' => e = .returned (.int .i64 2) ∧ ∃ n, w' = w.drewN n := by
  have h : shared abc.data.toList abx.data.toList = 2 := by kernel_rfl
  have := Shared_any abc abx w (by decide)
  rw [h] at this; exact this
theorem Meet_awake (w : World) : Calls Try.prog 21 #[spanV ⟨#[97]⟩ ⟨#[99]⟩ false, spanV ⟨#[98]⟩ ⟨#[]⟩ true] w fun e w' => e = .returned (.tuple #[spanV ⟨#[98]⟩ ⟨#[99]⟩ false, .bool true]) ∧ Below w.heap.size w w' := by
  have h : meetB ⟨#[97]⟩ ⟨#[99]⟩ false ⟨#[98]⟩ ⟨#[]⟩ true = ((⟨#[98]⟩, ⟨#[99]⟩, false), true) := by kernel_rfl
  have := Meet_any ⟨#[97]⟩ ⟨#[99]⟩ false ⟨#[98]⟩ ⟨#[]⟩ true w
  unfold meetV at this
  rw [h] at this; exact this
theorem In_awake (w : World) : Calls Try.prog 16 #[spanV ⟨#[]⟩ ⟨#[]⟩ true, .string ⟨#[]⟩] w fun e w' => e = .returned (.bool true) ∧ Below w.heap.size w w' := by
  have h : inB ⟨#[]⟩ ⟨#[]⟩ true ⟨#[]⟩ = true := by kernel_rfl
  have := In_any ⟨#[]⟩ ⟨#[]⟩ true ⟨#[]⟩ w
  rw [h] at this; exact this

set_option maxHeartbeats 1000000 in
theorem awake_any (w : World) : Calls Try.prog 8 #[] w fun e w' => e = .returned (.bool true) ∧ Below w.heap.size w w' := by
  go_enter Try.func8, Try.ntmps8
  go_wp2_with fail
  refine (Cut_awake _).mono ?_
  rintro e w1 ⟨rfl, n1, rfl⟩
  go_wp2_with fail
  refine (Meet_awake _).mono ?_
  rintro e w2 ⟨rfl, hb2⟩
  go_wp2_with fail
  refine (Shared_awake _).mono ?_
  rintro e w3 ⟨rfl, n3, rfl⟩
  go_wp2_with fail
  refine (All_any _).mono ?_
  rintro e w4 ⟨rfl, hb4⟩
  go_wp2_with fail
  refine (In_awake _).mono ?_
  rintro e w5 ⟨rfl, hb5⟩
  go_wp2_with fail
  go_ret
  exact ⟨rfl, Calm.bt (Calm.bt (Calm.bd (Calm.ba (Calm.bt (Calm.bd (Calm.br _) _) hb2) _) _) hb4) hb5⟩
end Lx
end Go.Proofs.Yteadgfdjpodblaa
