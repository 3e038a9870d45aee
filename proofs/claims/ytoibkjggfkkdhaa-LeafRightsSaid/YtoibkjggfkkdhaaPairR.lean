/-
  The document's leaf: Get.
-/
import Derived.Test.YtoibkjggfkkdhaaPairRS
namespace Go.Proofs.Ytoibkjggfkkdhaa
open Go.RowKit
namespace Lf
open Mem Lx Bu
/-- the value of a key -/
def getP (L : List Pr) (key : ByteArray) : Option ByteArray := (L.find? fun m => decide (m.1 = key)).map (·.2)
theorem getP_at {L : List Pr} {key : ByteArray} {k : Nat} {x : Pr} (hx : L[k]? = some x) (h : x.1 = key) (hn : ∀ (i : Nat) (m : Pr), i < k → L[i]? = some m → m.1 ≠ key) : getP L key = some x.2 := by
  unfold getP
  have : L.find? (fun m => decide (m.1 = key)) = some x := by
    rw [List.find?_eq_some_iff_getElem]
    have hk := (List.getElem?_eq_some_iff.1 hx).1
    refine ⟨by simpa using h, k, hk, ?_, fun j hj => ?_⟩
    · rw [List.getElem?_eq_getElem hk] at hx
      exact Option.some.inj hx
    · have := hn j L[j] hj (List.getElem?_eq_getElem (Nat.lt_trans hj hk))
      simpa using this
  rw [this]
  rfl
theorem getP_none {L : List Pr} {key : ByteArray} (hn : ∀ (i : Nat) (m : Pr), i < L.length → L[i]? = some m → m.1 ≠ key) : getP L key = none := by
  unfold getP
  have : L.find? (fun m => decide (m.1 = key)) = none := by
    rw [List.find?_eq_none]
    intro x hx
    obtain ⟨j, hj⟩ := List.getElem?_of_mem hx
    have := hn j x (List.getElem?_eq_some_iff.1 hj).1 hj
    simpa using this
  rw [this]
  rfl
set_option maxRecDepth 100000 in
set_option maxHeartbeats 2000000 in
theorem RGet_any {W : World} {A : Option Addr} {c : Nat} {L : List Pr} (h : PL W A L) (key : ByteArray) (hl : L.length ≤ 1048576) : Calls Try.prog 14 #[.slice A L.length c, .string key] W fun e w' => e = .returned (.tuple #[.string ((getP L key).getD ⟨#[]⟩), .bool (getP L key).isSome]) ∧ w' = W := by
  obtain ⟨n, hn⟩ : ∃ n, n = L.length := ⟨_, rfl⟩
  have HN := Lib.hid hn
  have HH := Lib.hid h
  rw [← hn] at hl ⊢
  clear h hn
  go_enter Try.func14, Try.ntmps14
  go_wp2_with fail
  go_loopg [6] n (fun gk iv wr => ∃ k : Nat, k ≤ n ∧ gk = n - k ∧ iv = .int .i64 (k : Int) ∧ Hid (∀ (i : Nat) (m : Pr), i < k → L[i]? = some m → m.1 ≠ key) ∧ wr = W)
  case atStart => exact ⟨0, Nat.zero_le _, rfl, rfl, fun i m hi => by omega, rfl⟩
  case round =>
    obtain ⟨k, hk, rfl, rfl, HE, rfl⟩ := hrel
    by_cases hlt : k < n
    · have hj : k < L.length := by rw [← HN.out]; exact hlt
      obtain ⟨x, hxx⟩ : ∃ x, x = L[k] := ⟨_, rfl⟩
      have hx' := nat_len hj
      rw [← hxx] at hx'
      obtain ⟨b, o, e, -, c0, c1⟩ := RdK.pair HH.out hx'
      subst e
      have hw2 : IntKind.i64.wrap ((k : Int) + 1) = ((k + 1 : Nat) : Int) := by rw [IntKind.wrap_i64]; omega
      have HXX := Lib.hid hx'
      clear hxx hx' hj
      by_cases hke : x.1 = key
      · have HF : Hid (getP L key = some x.2) := getP_at HXX.out hke HE.out
        rw [hke] at c0
        clear hke
        go_wp2_with fail
        refine bodyPost_ret (v := .tuple #[.string x.2, .bool true]) (by simp [results, Try.results14, go_sem]) rfl ⟨?_, rfl⟩
        rw [HF.out]
        rfl
      · have HE2 : Hid (∀ (i : Nat) (m : Pr), i < k + 1 → L[i]? = some m → m.1 ≠ key) := fun i m hi hm => by
          by_cases e : i = k
          · subst e
            rw [HXX.out] at hm
            cases hm
            exact hke
          · exact HE.out i m (by omega) hm
        have hq2 : (x.1.toList == key.toList) = false := by rw [ba_toList]; simpa using hke
        go_wp2_with fail
        go_roundg (n - (k + 1))
        case measure => omega
        case rel => exact ⟨k + 1, hlt, rfl, by go_num, HE2, rfl⟩
    · have HF : Hid (getP L key = none) := getP_none fun i m hi hm => HE.out i m (by rw [← HN.out] at hi; omega) hm
      obtain rfl : k = n := by omega
      clear hlt
      go_wp2_with fail
      refine bodyPost_ret (v := .tuple #[.string ⟨#[]⟩, .bool false]) (by simp [results, Try.results14, go_sem]) rfl ⟨?_, rfl⟩
      rw [HF.out]
      rfl
end Lf
end Go.Proofs.Ytoibkjggfkkdhaa
