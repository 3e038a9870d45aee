/-
  Contracts of layer chain, over rows: Has, Len, First, Last, Front, Back, Cut.
-/
import Derived.Test.YtjnbdmimflhhiaaChainLink
namespace Go.Proofs.Ytjnbdmimflhhiaa
open Go.RowKit
namespace Cn
open Mem

def inN (n : Nat) (i : Int) : Bool := decide (0 ≤ i) && decide (i < n)
theorem inN_nat {n : Nat} {i : Int} (h : inN n i = true) : ∃ k : Nat, i = (k : Int) ∧ k < n := by
  simp only [inN, Bool.and_eq_true, decide_eq_true_eq] at h
  exact ⟨i.toNat, by omega, by omega⟩
theorem inN_of {n k : Nat} (h : k < n) : inN n (k : Int) = true := by simp [inN]; omega
theorem inN_not {n : Nat} {i : Int} (h : inN n i = false) : ¬ (0 ≤ i ∧ i < n) := by
  intro hh
  have : inN n i = true := by simp [inN]; omega
  rw [this] at h; cases h
/-- is the number in the row? -/
def hasR (l : List Nat) (i : Int) : Bool := decide (0 ≤ i) && l.contains i.toNat
def errE (n : Nat) (i : Int) : Int := if inN n i then 0 else 4
def cutE (n : Nat) (l : List Nat) (i : Int) : Int := if inN n i then (if hasR l i then 0 else 9) else 4
def fronT (n : Nat) (l : List Nat) (i : Int) : List Nat := if inN n i then i.toNat :: del l i.toNat else l
def backT (n : Nat) (l : List Nat) (i : Int) : List Nat := if inN n i then del l i.toNat ++ [i.toNat] else l
def cutT (n : Nat) (l : List Nat) (i : Int) : List Nat := if inN n i then del l i.toNat else l
theorem hasR_nat (l : List Nat) (k : Nat) : hasR l (k : Int) = l.contains k := by simp [hasR]
section
variable {w : World} {g b n : Nat} {l : List Nat}

theorem CLen (h : Chn w g b n l) : Calls Try.prog 84 #[.pointer (some ⟨g, 0, none⟩)] w fun e w' => e = .returned (.int .i64 (l.length : Int)) ∧ w = w' := by
  obtain ⟨c, A, B, h1, h2⟩ := h
  exact Len_any g b c n _ A B w h1
theorem CHas (h : Chn w g b n l) (i : Int) : Calls Try.prog 89 #[.pointer (some ⟨g, 0, none⟩), .int .i64 i] w fun e w' => e = .returned (.bool (hasR l i)) ∧ w = w' := by
  obtain ⟨c, A, B, h1, h2⟩ := h
  cases hi : inN n i with
  | true =>
    obtain ⟨k, rfl, hk⟩ := inN_nat hi
    have e : (B k != k) = hasR l k := by
      have := h2.has hk
      rw [hasR_nat, Bool.eq_iff_iff]
      simp [this]
    rw [← e]
    exact Has_in g b c n k _ A B w h1 hk
  | false =>
    have e : hasR l i = false := by
      have := inN_not hi
      by_cases h0 : 0 ≤ i
      · have : i.toNat ∉ l := fun hm => by have := h2.lt _ hm; omega
        simp [hasR, this]
      · simp [hasR, h0]
    rw [e]
    exact Has_out g b c n i _ A B w h1 (inN_not hi)
theorem CFirst (h : Chn w g b n l) : Calls Try.prog 85 #[.pointer (some ⟨g, 0, none⟩)] w fun e w' => e = .returned (.tuple #[.int .i64 (l.headD 0 : Nat), .bool (decide (0 < l.length))]) ∧ Below w.heap.size w w' := by
  obtain ⟨c, A, B, h1, h2⟩ := h
  cases l with
  | nil => exact First_none g b c n A B w h1
  | cons y r =>
    have := First_some g b c n _ A B w h1 (by simp; omega)
    rw [h2.ends.1] at this
    simpa [Cn.hd] using this
theorem CLast (h : Chn w g b n l) : Calls Try.prog 90 #[.pointer (some ⟨g, 0, none⟩)] w fun e w' => e = .returned (.tuple #[.int .i64 (lst 0 l : Nat), .bool (decide (0 < l.length))]) ∧ Below w.heap.size w w' := by
  obtain ⟨c, A, B, h1, h2⟩ := h
  cases l with
  | nil => exact Last_none g b c n A B w h1
  | cons y r =>
    have := Last_some g b c n _ A B w h1 (by simp; omega)
    rw [h2.ends.2] at this
    simpa [Cn.lst] using this
theorem Cloosen (h : Chn w g b n l) {i : Nat} (hi : i < n) : Calls Try.prog 64 #[.pointer (some ⟨g, 0, none⟩), .int .i64 (i : Int)] w fun e w' => e = .returned (.tuple #[]) ∧ Chn w' g b n (del l i) ∧ Flow.Into [g, b] w w' := by
  obtain ⟨c, A, B, h1, h2⟩ := h
  by_cases hm : i ∈ l
  · obtain ⟨l1, l2, rfl⟩ := List.append_of_mem hm
    obtain ⟨e1, e2, e3, e4⟩ := h2.next
    obtain ⟨f1, f2, _, _, _, _, _, _⟩ := split_facts h2
    have hl1 : ∀ x ∈ l1, x < n := fun x hx => h2.lt x (by simp [hx])
    have hl2 : ∀ x ∈ l2, x < n := fun x hx => h2.lt x (by simp [hx])
    have hlen := h2.len_le
    have hn := h1.hi
    rw [del_split f1 f2]
    refine (loosen_in g b c n i _ A B w h1 hi (by rw [e1]; exact hd_lt hl2) (by rw [e3]; exact lst_lt hl1) ⟨by omega, by omega⟩ ?_ ?_).mono fun e w' ⟨he, hc, hI⟩ => ⟨he, ⟨c, _, _, ?_, h2.loosen⟩, hI⟩
    · rw [e3]
      rintro he
      rcases List.mem_cons.1 (lst_mem n l1) with hp | hp
      · omega
      · exact f1 (he ▸ hp)
    · rw [e1]
      rintro he
      rcases hd_mem l2 n with hp | hp
      · omega
      · exact f2 (he ▸ hp)
    · have e : ((l1 ++ i :: l2).length : Int) - 1 = ((l1 ++ l2).length : Int) := by simp; omega
      rw [← e]; exact hc
  · rw [del_none hm]
    exact (loosen_out g b c n i _ A B w h1 hi (h2.out i hi hm)).mono fun e w' ⟨he, hw⟩ => ⟨he, hw ▸ ⟨c, A, B, h1, h2⟩, hw ▸ Flow.Into.refl _ _⟩
/-- join behind n: to the front -/
theorem Cjoin_front (h : Chn w g b n l) {i : Nat} (hi : i < n) (hm : i ∉ l) : Calls Try.prog 65 #[.pointer (some ⟨g, 0, none⟩), .int .i64 (i : Int), .int .i64 (n : Int)] w fun e w' => e = .returned (.tuple #[]) ∧ Chn w' g b n (i :: l) ∧ Flow.Into [g, b] w w' := by
  obtain ⟨c, A, B, h1, h2⟩ := h
  have hlen := h2.len_le
  have hn := h1.hi
  refine (join_any g b c n i n _ A B w h1 (Nat.le_of_lt hi) (Nat.le_refl _) (by rw [h2.ends.1]; exact hd_lt h2.lt) ⟨by omega, by omega⟩ (by omega) ?_).mono fun e w' ⟨he, hc, hI⟩ => ⟨he, ⟨c, _, _, ?_, h2.front hi hm rfl⟩, hI⟩
  · rw [h2.ends.1]
    rintro he
    rcases hd_mem l n with hp | hp
    · omega
    · exact hm (he ▸ hp)
  · simpa using hc
end
end Cn
end Go.Proofs.Ytjnbdmimflhhiaa
