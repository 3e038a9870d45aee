/-
  leaf's laws: great.
-/
import Derived.Test.YtoibkjggfkkdhaaPairP
namespace Go.Proofs.Ytoibkjggfkkdhaa
open Go.RowKit
namespace Lf
open Mem Lx Bu
/-- short enough for the document's answer -/
def FitP (L : List Pr) : Prop := L.length ≤ 120 ∧ ∀ x, x ∈ L → x.1.size ≤ 300
def FitM (M : List Mg) : Prop := M.length ≤ 120 ∧ ∀ m, m ∈ M → m.1.size ≤ 300
set_option maxRecDepth 100000 in
set_option maxHeartbeats 2000000 in
theorem great_any {W : World} {A A' : Option Addr} {c c' : Nat} {L : List Pr} {M : List Mg} (h : PL W A L) (h' : ML W A' M) (hl : L.length ≤ maxLen) (hm : M.length ≤ maxLen) : Calls Try.prog 7 #[.slice A L.length c, .slice A' M.length c'] W fun e w' => (∃ v : Bool, e = .returned (.bool v) ∧ (v = false ↔ FitP L ∧ FitM M)) ∧ w' = W := by
  have HH := Lib.hid h
  have HH' := Lib.hid h'
  generalize hn : L.length = n at *
  generalize hn' : M.length = m at *
  have HN := Lib.hid hn
  have HN' := Lib.hid hn'
  unfold maxLen at hl hm
  clear h h' hn hn'
  go_enter Try.func7, Try.ntmps7
  go_upto_block 0 with fail
  go_cut [] (fun wx => Hid (n ≤ 200 → ∀ x, x ∈ L → x.1.size ≤ 300) ∧ wx = W)
  case first =>
    go_wp2_with fail
    go_loopg [5] (n + 1) (fun gk iv wx => ∃ j : Nat, j ≤ n ∧ j ≤ 200 ∧ gk = n + 1 - j ∧ iv = .int .i64 (j : Int) ∧ Hid (∀ (i : Nat) (x : Pr), i < j → L[i]? = some x → x.1.size ≤ 300) ∧ wx = W)
    case atStart => exact ⟨0, Nat.zero_le _, Nat.zero_le _, rfl, rfl, fun i x hi => by omega, rfl⟩
    case round =>
      obtain ⟨j, hj, hj2, rfl, rfl, HJ, rfl⟩ := hrel
      by_cases hlt2 : j < n
      · by_cases hlt3 : j < 200
        · have hjL : j < L.length := by rw [HN.out]; exact hlt2
          obtain ⟨x, hxx⟩ : ∃ x, x = L[j] := ⟨_, rfl⟩
          have hx' := nat_len hjL
          rw [← hxx] at hx'
          obtain ⟨b, o, e, -, c0, -⟩ := RdK.pair HH.out hx'
          subst e
          have HX := Lib.hid hx'
          have hw3 : IntKind.i64.wrap ((j : Int) + 1) = ((j + 1 : Nat) : Int) := by rw [IntKind.wrap_i64]; omega
          clear hxx hx' hjL
          by_cases hz : x.1.size ≤ 300
          · have HJ2 : Hid (∀ (i : Nat) (x : Pr), i < j + 1 → L[i]? = some x → x.1.size ≤ 300) := fun i y hi hy => by
              by_cases e : i = j
              · subst e
                rw [HX.out] at hy
                cases hy
                exact hz
              · exact HJ.out i y (by omega) hy
            have hd : decide (300 < (x.1.size : Int)) = false := by simp; omega
            clear hz
            go_wp2_with fail
            go_roundg (n + 1 - (j + 1))
            case measure => omega
            case rel => exact ⟨j + 1, hlt2, hlt3, rfl, by go_num, HJ2, rfl⟩
          · have hd : (300 : Int) < (x.1.size : Int) := by omega
            have HNO : Hid (¬ (FitP L ∧ FitM M)) := fun h => hz (h.1.2 x (List.mem_of_getElem? HX.out))
            clear hz
            go_wp2_with fail
            go_ret
            exact ⟨⟨true, rfl, (fun h => by cases h), fun h => absurd h HNO.out⟩, rfl⟩
        · have HR : Hid (n ≤ 200 → ∀ x, x ∈ L → x.1.size ≤ 300) := fun h => absurd hlt3 (by omega)
          obtain rfl : j = 200 := by omega
          go_wp2_with fail
          go_meet
          exact ⟨HR, rfl⟩
      · have HR : Hid (n ≤ 200 → ∀ x, x ∈ L → x.1.size ≤ 300) := fun _ x hx => by
          obtain ⟨i, hi⟩ := List.getElem?_of_mem hx
          have := (List.getElem?_eq_some_iff.1 hi).1
          rw [HN.out] at this
          exact HJ.out i x (by omega) hi
        obtain rfl : j = n := by omega
        clear hlt2
        go_wp2_with fail
        go_meet
        exact ⟨HR, rfl⟩
  case rest =>
  obtain ⟨HR, rfl⟩ := hcut
  go_upto_block 2 with fail
  go_cut [] (fun wx => Hid (m ≤ 200 → ∀ x, x ∈ M → x.1.size ≤ 300) ∧ wx = wc)
  case first =>
    go_wp2_with fail
    go_loopg [6] (m + 1) (fun gk iv wx => ∃ j : Nat, j ≤ m ∧ j ≤ 200 ∧ gk = m + 1 - j ∧ iv = .int .i64 (j : Int) ∧ Hid (∀ (i : Nat) (x : Mg), i < j → M[i]? = some x → x.1.size ≤ 300) ∧ wx = wc)
    case atStart => exact ⟨0, Nat.zero_le _, Nat.zero_le _, rfl, rfl, fun i x hi => by omega, rfl⟩
    case round =>
      obtain ⟨j, hj, hj2, rfl, rfl, HJ, rfl⟩ := hrel
      by_cases hlt2 : j < m
      · by_cases hlt3 : j < 200
        · have hjL : j < M.length := by rw [HN'.out]; exact hlt2
          obtain ⟨x, hxx⟩ : ∃ x, x = M[j] := ⟨_, rfl⟩
          have hx' := nat_len hjL
          rw [← hxx] at hx'
          obtain ⟨b, o, e, -, c0, -, -⟩ := RdK.msg HH'.out hx'
          subst e
          have HX := Lib.hid hx'
          have hw3 : IntKind.i64.wrap ((j : Int) + 1) = ((j + 1 : Nat) : Int) := by rw [IntKind.wrap_i64]; omega
          clear hxx hx' hjL
          by_cases hz : x.1.size ≤ 300
          · have HJ2 : Hid (∀ (i : Nat) (x : Mg), i < j + 1 → M[i]? = some x → x.1.size ≤ 300) := fun i y hi hy => by
              by_cases e : i = j
              · subst e
                rw [HX.out] at hy
                cases hy
                exact hz
              · exact HJ.out i y (by omega) hy
            have hd : decide (300 < (x.1.size : Int)) = false := by simp; omega
            clear hz
            go_wp2_with fail
            go_roundg (m + 1 - (j + 1))
            case measure => omega
            case rel => exact ⟨j + 1, hlt2, hlt3, rfl, by go_num, HJ2, rfl⟩
          · have hd : (300 : Int) < (x.1.size : Int) := by omega
            have HNO : Hid (¬ (FitP L ∧ FitM M)) := fun h => hz (h.2.2 x (List.mem_of_getElem? HX.out))
            clear hz
            go_wp2_with fail
            go_ret
            exact ⟨⟨true, rfl, (fun h => by cases h), fun h => absurd h HNO.out⟩, rfl⟩
        · have HR2 : Hid (m ≤ 200 → ∀ x, x ∈ M → x.1.size ≤ 300) := fun h => absurd hlt3 (by omega)
          obtain rfl : j = 200 := by omega
          go_wp2_with fail
          go_meet
          exact ⟨HR2, rfl⟩
      · have HR2 : Hid (m ≤ 200 → ∀ x, x ∈ M → x.1.size ≤ 300) := fun _ x hx => by
          obtain ⟨i, hi⟩ := List.getElem?_of_mem hx
          have := (List.getElem?_eq_some_iff.1 hi).1
          rw [HN'.out] at this
          exact HJ.out i x (by omega) hi
        obtain rfl : j = m := by omega
        clear hlt2
        go_wp2_with fail
        go_meet
        exact ⟨HR2, rfl⟩
  case rest =>
  obtain ⟨HR2, rfl⟩ := hcut
  by_cases h1 : n ≤ 120
  · have hd1 : decide (120 < (n : Int)) = false := by simp; omega
    by_cases h2 : m ≤ 120
    · have hd2 : decide (120 < (m : Int)) = false := by simp; omega
      have HF : Hid (FitP L ∧ FitM M) := ⟨⟨by rw [HN.out]; exact h1, HR.out (by omega)⟩, by rw [HN'.out]; exact h2, HR2.out (by omega)⟩
      clear h1 h2
      go_wp2_with fail
      go_ret
      exact ⟨⟨false, rfl, fun _ => HF.out, fun _ => rfl⟩, rfl⟩
    · have hd2 : (120 : Int) < (m : Int) := by omega
      have HNO : Hid (¬ (FitP L ∧ FitM M)) := fun h => h2 (by rw [← HN'.out]; exact h.2.1)
      clear h1 h2
      go_wp2_with fail
      go_ret
      exact ⟨⟨true, rfl, (fun h => by cases h), fun h => absurd h HNO.out⟩, rfl⟩
  · have hd1 : (120 : Int) < (n : Int) := by omega
    have HNO : Hid (¬ (FitP L ∧ FitM M)) := fun h => h1 (by rw [← HN.out]; exact h.1.1)
    clear h1
    go_wp2_with fail
    go_ret
    exact ⟨⟨true, rfl, (fun h => by cases h), fun h => absurd h HNO.out⟩, rfl⟩
end Lf
end Go.Proofs.Ytoibkjggfkkdhaa
