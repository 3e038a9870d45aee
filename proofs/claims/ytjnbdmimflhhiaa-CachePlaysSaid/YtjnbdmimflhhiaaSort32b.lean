/-
  slices.Sort of at most twelve numbers: what it calls ahead.
-/
import Derived.Test.YtjnbdmimflhhiaaSort32
namespace Go.Proofs.Ytjnbdmimflhhiaa
open Go.RowKit
namespace So
open Mem Po

set_option maxRecDepth 100000 in
theorem Len_small (n : Nat) (hn : n ≤ 12) (w : World) : Calls Try.prog 83 #[.int .u64 (n : Int)] w fun e w' => ∃ z, e = .returned (.int .i64 z) ∧ w = w' := by
  have h : n = 0 ∨ n = 1 ∨ n = 2 ∨ n = 3 ∨ n = 4 ∨ n = 5 ∨ n = 6 ∨ n = 7 ∨ n = 8 ∨ n = 9 ∨ n = 10 ∨ n = 11 ∨ n = 12 := by omega
  clear hn
  rcases h with rfl | rfl | rfl | rfl | rfl | rfl | rfl | rfl | rfl | rfl | rfl | rfl | rfl
  all_goals
    go_enter Try.func83, Try.ntmps83
    go_wp2_with go_in
    go_ret
    exact ⟨_, rfl, rfl⟩
/-- what a sort leaves -/
def Sorted (w w' : World) (A : Option Addr) (c : Nat) (l : List Nat) (B : Nat) : Prop := ∃ L, VO 23 w' B A c (L.map u32V) ∧ L.Perm l ∧ Srt L ∧ ∀ T : List Nat, (∀ a, A = some a → a.block ∈ T) → Flow.Into T w w'
theorem vo_of_ow {U : TypeId} {w : World} {B g c : Nat} {vs : List Value} (h : Ow U w g c vs) (hB : B ≤ g) : VO U w B (some ⟨g, 0, none⟩) c vs := by
  obtain ⟨h1, h2⟩ := h
  refine ⟨h1, ?_⟩
  rcases h2 with ⟨h, _⟩ | ⟨g', cap, cur, he, _, hh, hr⟩
  · cases h
  · obtain ⟨rfl, rfl⟩ : g = g' ∧ c = cap := by simpa using he
    exact .inr ⟨g, c, cur, rfl, hB, hh, hr⟩
theorem insert_vo {w : World} {B c n : Nat} {A : Option Addr} {l : List Nat} (h : VO 23 w B A c (l.map u32V)) (hl : l.length = n) (hn : n ≤ 1000) (hnil : n = 0 → A = none) :
    Calls Try.prog 94 #[.slice A n c, .int .i64 0, .int .i64 (n : Int)] w fun e w' => e = .returned (.tuple #[]) ∧ Sorted w w' A c l B := by
  by_cases h0 : n = 0
  · subst h0
    obtain rfl := hnil rfl
    obtain rfl : l = [] := List.eq_nil_of_length_eq_zero hl
    refine (insert_nil c).mono fun e w' ⟨he, hw⟩ => ⟨he, [], hw ▸ h, List.Perm.refl _, by simp [Srt], fun T _ => hw ▸ Flow.Into.refl _ _⟩
  · obtain ⟨g, rfl, hB, ho⟩ := h.ow (by simp; omega)
    refine (insert_any ho hl (by omega) hn).mono fun e w' ⟨he, L, hO⟩ => ⟨he, L, vo_of_ow hO.ow hB, hO.pm, ?_, fun T hT => hO.hi.mono fun y hy => ?_⟩
    · have := hO.so
      rwa [List.take_of_length_le (by rw [hO.le]; exact Nat.le_refl _)] at this
    · obtain rfl : y = g := by simpa using hy
      exact hT _ rfl
set_option maxRecDepth 100000 in
theorem pdq_vo {w : World} {B c n : Nat} {A : Option Addr} {l : List Nat} (h : VO 23 w B A c (l.map u32V)) (hl : l.length = n) (hn : n ≤ 12) (hnil : n = 0 → A = none) (z : Int) :
    Calls Try.prog 82 #[.slice A n c, .int .i64 0, .int .i64 (n : Int), .int .i64 z] w fun e w' => e = .returned (.tuple #[]) ∧ Sorted w w' A c l B := by
  have cI := Lib.hid (insert_vo h hl (by omega) hnil)
  clear h hl hnil
  go_enter Try.func82, Try.ntmps82
  go_wp2_with fail
  go_loopg [1, 2] 0 (fun gk av bv wr => gk = 0 ∧ av = .int .i64 0 ∧ bv = .int .i64 (n : Int) ∧ w = wr)
  case atStart => exact ⟨rfl, rfl, rfl, rfl⟩
  case round =>
    obtain ⟨rfl, rfl, rfl, rfl⟩ := hrel
    go_wp2_with (go_at_call 94; refine cI.out.mono ?_; rintro e w' ⟨rfl, hs⟩)
    exact bodyPost_ret (results_none rfl _ _ _) rfl ⟨rfl, hs⟩
set_option maxRecDepth 100000 in
theorem Sort_vo {w : World} {B c n : Nat} {A : Option Addr} {l : List Nat} (h : VO 23 w B A c (l.map u32V)) (hl : l.length = n) (hn : n ≤ 12) (hnil : n = 0 → A = none) :
    Calls Try.prog 51 #[.slice A n c] w fun e w' => e = .returned (.tuple #[]) ∧ Sorted w w' A c l B := by
  have cI := fun z => Lib.hid (pdq_vo h hl hn hnil z)
  have cL := fun w => Lib.hid (Len_small n hn w)
  have hwr : IntKind.u64.wrap (n : Int) = (n : Int) := by rw [IntKind.wrap_u64]; omega
  clear h hl hnil
  go_enter Try.func51, Try.ntmps51
  go_wp2_with (first
    | (go_at_call 83; refine (cL _).out.mono ?_; rintro e w' ⟨z, rfl, rfl⟩)
    | (go_at_call 82; refine (cI _).out.mono ?_; rintro e w' ⟨rfl, hs⟩))
  go_end0
  exact ⟨rfl, hs⟩
end So
end Go.Proofs.Ytjnbdmimflhhiaa
