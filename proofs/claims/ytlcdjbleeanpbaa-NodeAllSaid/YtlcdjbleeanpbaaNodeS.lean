/-
  All loads together are the messages; the last place at which a block was met, going down (no code).
-/
import Derived.Test.YtlcdjbleeanpbaaNodeF
namespace Go.Proofs.Ytlcdjbleeanpbaa
open Go.RowKit
namespace No
open Mem Lx Bu Lf Fa
def sumN (f : Nat → Nat) : Nat → Nat
  | 0 => 0
  | k + 1 => sumN f k + f k
theorem sumN_add (f g : Nat → Nat) : ∀ n, sumN (fun i => f i + g i) n = sumN f n + sumN g n
  | 0 => rfl
  | n + 1 => by
    show sumN (fun i => f i + g i) n + (f n + g n) = (sumN f n + f n) + (sumN g n + g n)
    rw [sumN_add f g n]
    omega
theorem sumN_zero (f : Nat → Nat) : ∀ n, (∀ i, i < n → f i = 0) → sumN f n = 0
  | 0, _ => rfl
  | n + 1, h => by
    show sumN f n + f n = 0
    rw [sumN_zero f n fun i hi => h i (by omega), h n (by omega)]
theorem sumN_one (w : Nat) : ∀ n, sumN (fun i => if w = i then 1 else 0) n = if w < n then 1 else 0
  | 0 => by simp [sumN]
  | n + 1 => by
    show sumN (fun i => if w = i then 1 else 0) n + (if w = n then 1 else 0) = _
    rw [sumN_one w n]
    by_cases h1 : w < n
    · rw [if_pos h1, if_neg (by omega), if_pos (by omega)]
    · by_cases h2 : w = n
      · rw [if_neg h1, if_pos h2, if_pos (by omega)]
      · rw [if_neg h1, if_neg h2, if_neg (by omega)]
theorem sumN_congr {f g : Nat → Nat} : ∀ n, (∀ i, i < n → f i = g i) → sumN f n = sumN g n
  | 0, _ => rfl
  | n + 1, h => by
    show sumN f n + f n = sumN g n + g n
    rw [sumN_congr n fun i hi => h i (by omega), h n (by omega)]
theorem sumN_mono (f : Nat → Nat) {k : Nat} : ∀ n, k ≤ n → sumN f k ≤ sumN f n
  | 0, h => by
    obtain rfl : k = 0 := by omega
    exact Nat.le_refl _
  | n + 1, h => by
    rcases Nat.lt_or_ge k (n + 1) with h1 | h1
    · have := sumN_mono f n (show k ≤ n by omega)
      show sumN f k ≤ sumN f n + f n
      omega
    · obtain rfl : k = n + 1 := by omega
      exact Nat.le_refl _
theorem sumN_le {f : Nat → Nat} {M : Nat} : ∀ n, (∀ i, i < n → f i ≤ M) → sumN f n ≤ M * n
  | 0, _ => Nat.zero_le _
  | n + 1, h => by
    have h1 := sumN_le n fun i hi => h i (by omega)
    have h2 := h n (by omega)
    show sumN f n + f n ≤ M * (n + 1)
    rw [Nat.mul_succ]
    omega
theorem sum_loadN (P : List ByteArray) (n : Nat) : ∀ B : List Mg, (∀ m, m ∈ B → wayS P m.1 < n) → sumN (fun i => loadN P B (i : Int)) n = B.length
  | [], _ => sumN_zero _ _ fun _ _ => rfl
  | m :: B, h => by
    have h1 : ∀ i, i < n → loadN P (m :: B) (i : Int) = loadN P B (i : Int) + if wayS P m.1 = i then 1 else 0 := fun i _ => by
      unfold loadN
      by_cases h2 : wayS P m.1 = i
      · rw [List.filter_cons_of_pos (by simp [h2]), if_pos h2]
        rfl
      · rw [List.filter_cons_of_neg (by simp; omega), if_neg h2]
        rfl
    rw [sumN_congr n h1, sumN_add, sum_loadN P n B fun x hx => h x (List.mem_cons_of_mem _ hx), sumN_one, if_pos (h m List.mem_cons_self)]
    rfl
/-- all loads together are the messages -/
theorem PlainN.sum {n : Nd} (h : PlainN n) : sumN (ldN n) n.kids.length = n.buf.length := sum_loadN n.piv n.kids.length n.buf fun m _ => by
  have := wayS_le n.piv m.1
  have := h.2.2
  omega
theorem PlainN.most {n : Nd} (h : PlainN n) : n.buf.length ≤ ldN n (heavN (ldN n) n.kids.length) * n.kids.length := by
  rw [← h.sum]
  exact sumN_le _ fun i hi => heavN_top (ldN n) _ i hi
/-- the first place from j on -/
def WantP (K : List Nat) (b j : Nat) (y : Int) : Prop := (y = -1 ∧ ∀ i : Nat, j ≤ i → K[i]? ≠ some b) ∨ (∃ m : Nat, y = (m : Int) ∧ j ≤ m ∧ K[m]? = some b ∧ ∀ i : Nat, j ≤ i → i < m → K[i]? ≠ some b)
theorem WantP.none_ (K : List Nat) (b : Nat) : WantP K b K.length (-1) := .inl ⟨rfl, fun i hi h => by
  have := (List.getElem?_eq_some_iff.1 h).1
  omega⟩
theorem WantP.here {K : List Nat} {b i : Nat} (h : K[i]? = some b) : WantP K b i (i : Int) := .inr ⟨i, rfl, Nat.le_refl _, h, fun k h1 h2 => by omega⟩
theorem WantP.less {K : List Nat} {b i x : Nat} {y : Int} (h : WantP K b (i + 1) y) (hx : K[i]? = some x) (hb : x ≠ b) : WantP K b i y := by
  have h0 : K[i]? ≠ some b := fun e => hb (by
    rw [hx] at e
    exact Option.some.inj e)
  rcases h with ⟨h1, h2⟩ | ⟨m, h1, h2, h3, h4⟩
  · refine .inl ⟨h1, fun k hk => ?_⟩
    by_cases e : k = i
    · subst e
      exact h0
    · exact h2 k (by omega)
  · refine .inr ⟨m, h1, by omega, h3, fun k hk hkm => ?_⟩
    by_cases e : k = i
    · subst e
      exact h0
    · exact h4 k (by omega) hkm
theorem WantP.find {K : List Nat} {b v : Nat} {ok : Bool} {y : Int} (h : WantP K b 0 y) (k : FindP K b v ok) : (ok = true ∧ y = (v : Int)) ∨ (ok = false ∧ y = -1 ∧ v = 0) := by
  rcases k with ⟨h1, h2, h3⟩ | ⟨h1, h2, h3⟩
  · refine .inl ⟨h1, ?_⟩
    rcases h with ⟨h4, h5⟩ | ⟨m, h4, h5, h6, h7⟩
    · exact absurd h2 (h5 v (Nat.zero_le _))
    · rcases Nat.lt_trichotomy m v with h8 | h8 | h8
      · exact absurd h6 (h3 m h8)
      · rw [h4, h8]
      · exact absurd h2 (h7 v (Nat.zero_le _) h8)
  · refine .inr ⟨h1, ?_, h2⟩
    rcases h with ⟨h4, h5⟩ | ⟨m, h4, h5, h6, h7⟩
    · exact h4
    · exact absurd (List.mem_of_getElem? h6) h3
end No
end Go.Proofs.Ytlcdjbleeanpbaa
