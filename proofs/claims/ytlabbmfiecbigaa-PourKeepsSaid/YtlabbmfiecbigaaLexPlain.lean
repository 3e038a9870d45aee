/-
  Plain facts on byte lists in order: no program. For layer lex.
-/
import Derived.Lib.Bytealg
namespace Go.Proofs.Ytlabbmfiecbigaa
namespace Lx
open Go.Lib

abbrev cmp (a b : List UInt8) : Int := compareBytes a b

theorem cmp_self : ∀ a : List UInt8, compareBytes a a = 0
  | [] => rfl
  | a :: as => by simp [compareBytes, cmp_self as]

theorem cmp_cons_eq (a : UInt8) (as bs : List UInt8) : compareBytes (a :: as) (a :: bs) = compareBytes as bs := by
  simp [compareBytes]

theorem u8_tri (a b : UInt8) : a < b ∨ a = b ∨ b < a := by
  simp only [UInt8.lt_iff_toNat_lt, ← UInt8.toNat_inj]; omega
theorem u8_lt_irrefl (a : UInt8) : ¬ a < a := by simp
theorem u8_lt_asymm {a b : UInt8} (h : a < b) : ¬ b < a := by
  simp only [UInt8.lt_iff_toNat_lt] at *; omega
theorem u8_lt_trans {a b c : UInt8} (h : a < b) (k : b < c) : a < c := by
  simp only [UInt8.lt_iff_toNat_lt] at *; omega

theorem cmp_cons_lt {a b : UInt8} (as bs : List UInt8) (h : a < b) : compareBytes (a :: as) (b :: bs) = -1 := by
  simp [compareBytes, h]
theorem cmp_cons_gt {a b : UInt8} (as bs : List UInt8) (h : b < a) : compareBytes (a :: as) (b :: bs) = 1 := by
  simp [compareBytes, h, u8_lt_asymm h]

theorem cmp_range : ∀ a b : List UInt8, compareBytes a b = -1 ∨ compareBytes a b = 0 ∨ compareBytes a b = 1
  | [], [] => by simp [compareBytes]
  | [], _ :: _ => by simp [compareBytes]
  | _ :: _, [] => by simp [compareBytes]
  | a :: as, b :: bs => by
    rcases u8_tri a b with h | rfl | h
    · rw [cmp_cons_lt _ _ h]; simp
    · rw [cmp_cons_eq]; exact cmp_range as bs
    · rw [cmp_cons_gt _ _ h]; simp

theorem cmp_neg : ∀ a b : List UInt8, compareBytes a b = -compareBytes b a
  | [], [] => by simp [compareBytes]
  | [], _ :: _ => by simp [compareBytes]
  | _ :: _, [] => by simp [compareBytes]
  | a :: as, b :: bs => by
    rcases u8_tri a b with h | rfl | h
    · rw [cmp_cons_lt _ _ h, cmp_cons_gt _ _ h]
    · rw [cmp_cons_eq, cmp_cons_eq]; exact cmp_neg as bs
    · rw [cmp_cons_gt _ _ h, cmp_cons_lt _ _ h]; rfl

theorem cmp_zero : ∀ {a b : List UInt8}, compareBytes a b = 0 → a = b
  | [], [], _ => rfl
  | [], _ :: _, h => by simp [compareBytes] at h
  | _ :: _, [], h => by simp [compareBytes] at h
  | a :: as, b :: bs, h => by
    rcases u8_tri a b with k | rfl | k
    · rw [cmp_cons_lt _ _ k] at h; omega
    · rw [cmp_cons_eq] at h; rw [cmp_zero h]
    · rw [cmp_cons_gt _ _ k] at h; omega

theorem cmp_trans_lt : ∀ {a b c : List UInt8}, compareBytes a b < 0 → compareBytes b c < 0 → compareBytes a c < 0
  | [], [], _, h, _ => by simp [compareBytes] at h
  | _ :: _, [], _, h, _ => by simp [compareBytes] at h
  | _, _ :: _, [], _, k => by simp [compareBytes] at k
  | [], _ :: _, _ :: _, _, _ => by simp [compareBytes]
  | a :: as, b :: bs, c :: cs, h, k => by
    rcases u8_tri a b with h1 | rfl | h1
    · rcases u8_tri b c with h2 | rfl | h2
      · rw [cmp_cons_lt _ _ (u8_lt_trans h1 h2)]; omega
      · rw [cmp_cons_lt _ _ h1]; omega
      · rw [cmp_cons_gt _ _ h2] at k; omega
    · rcases u8_tri a c with h2 | rfl | h2
      · rw [cmp_cons_lt _ _ h2]; omega
      · rw [cmp_cons_eq] at *; exact cmp_trans_lt h k
      · rw [cmp_cons_gt _ _ h2] at k; omega
    · rw [cmp_cons_gt _ _ h1] at h; omega

theorem cmp_trans_le {a b c : List UInt8} (h : compareBytes a b ≤ 0) (k : compareBytes b c ≤ 0) : compareBytes a c ≤ 0 := by
  by_cases h0 : compareBytes a b = 0
  · rw [cmp_zero h0]; exact k
  · by_cases k0 : compareBytes b c = 0
    · rw [← cmp_zero k0]; exact h
    · have := cmp_trans_lt (a := a) (b := b) (c := c) (by omega) (by omega); omega
theorem cmp_trans_lt_le {a b c : List UInt8} (h : compareBytes a b < 0) (k : compareBytes b c ≤ 0) : compareBytes a c < 0 := by
  by_cases k0 : compareBytes b c = 0
  · rw [← cmp_zero k0]; exact h
  · exact cmp_trans_lt h (by omega)
theorem cmp_trans_le_lt {a b c : List UInt8} (h : compareBytes a b ≤ 0) (k : compareBytes b c < 0) : compareBytes a c < 0 := by
  by_cases h0 : compareBytes a b = 0
  · rw [cmp_zero h0]; exact k
  · exact cmp_trans_lt (by omega) k
/-- what is not ahead is behind or equal -/
theorem cmp_le_of_not_lt {a b : List UInt8} (h : ¬ compareBytes a b < 0) : compareBytes b a ≤ 0 := by
  have := cmp_neg a b; omega
theorem cmp_lt_of_not_le {a b : List UInt8} (h : ¬ compareBytes a b ≤ 0) : compareBytes b a < 0 := by
  have := cmp_neg a b; omega

/-! ### what follows a key -/
theorem cmp_next : ∀ a : List UInt8, compareBytes a (a ++ [0]) = -1
  | [] => rfl
  | a :: as => by rw [List.cons_append, cmp_cons_eq]; exact cmp_next as
theorem cmp_next_none : ∀ {a b : List UInt8}, compareBytes a b < 0 → ¬ compareBytes b (a ++ [0]) < 0
  | [], [], h => by simp [compareBytes] at h
  | [], b :: bs, _ => by
    intro k
    rcases u8_tri b 0 with h | rfl | h
    · have := u8_lt_irrefl b; simp [UInt8.lt_iff_toNat_lt] at h
    · rw [List.nil_append, cmp_cons_eq] at k
      cases bs <;> simp [compareBytes] at k
    · rw [List.nil_append, cmp_cons_gt _ _ h] at k; omega
  | _ :: _, [], h => by simp [compareBytes] at h
  | a :: as, b :: bs, h => by
    intro k
    rw [List.cons_append] at k
    rcases u8_tri a b with h1 | rfl | h1
    · rw [cmp_cons_gt _ _ h1] at k; omega
    · rw [cmp_cons_eq] at h k; exact cmp_next_none h k
    · rw [cmp_cons_gt _ _ h1] at h; omega

/-! ### what both share, and where one is cut -/
def shared : List UInt8 → List UInt8 → Nat
  | a :: as, b :: bs => if a = b then shared as bs + 1 else 0
  | _, _ => 0
theorem shared_le_left : ∀ a b : List UInt8, shared a b ≤ a.length
  | [], _ => by simp [shared]
  | _ :: _, [] => by simp [shared]
  | a :: as, b :: bs => by
    have := shared_le_left as bs
    simp only [shared, List.length_cons]; split <;> omega
theorem shared_le_right : ∀ a b : List UInt8, shared a b ≤ b.length
  | [], _ => by simp [shared]
  | _ :: _, [] => by simp [shared]
  | a :: as, b :: bs => by
    have := shared_le_right as bs
    simp only [shared, List.length_cons]; split <;> omega
/-- as far as they are equal -/
theorem shared_eq_at : ∀ {a b : List UInt8} {k : Nat}, k < shared a b → a.getD k 0 = b.getD k 0
  | [], _, _, h => by simp [shared] at h
  | _ :: _, [], _, h => by simp [shared] at h
  | a :: as, b :: bs, k, h => by
    simp only [shared] at h
    split at h
    · rename_i e
      cases k with
      | zero => simpa using e
      | succ k => simpa using shared_eq_at (a := as) (b := bs) (k := k) (by omega)
    · omega
theorem shared_ne_at : ∀ {a b : List UInt8}, shared a b < a.length → shared a b < b.length → a.getD (shared a b) 0 ≠ b.getD (shared a b) 0
  | [], _, h, _ => by simp [shared] at h
  | _ :: _, [], _, h => by simp [shared] at h
  | a :: as, b :: bs, h, k => by
    simp only [shared] at *
    split
    · rename_i e
      rw [if_pos e] at h k
      simpa using shared_ne_at (a := as) (b := bs) (by simpa using h) (by simpa using k)
    · rename_i e; simpa using e
/-- the rounds of a loop that counts what both share -/
theorem shared_of {a b : List UInt8} {k : Nat} (ha : k ≤ a.length) (hb : k ≤ b.length) (heq : ∀ j, j < k → a.getD j 0 = b.getD j 0)
    (hst : k < a.length → k < b.length → a.getD k 0 ≠ b.getD k 0) : shared a b = k := by
  rcases Nat.lt_trichotomy (shared a b) k with h | h | h
  · exact absurd (heq _ h) (shared_ne_at (by omega) (by omega))
  · exact h
  · have h1 := shared_le_left a b
    have h2 := shared_le_right a b
    exact absurd (shared_eq_at h) (hst (by omega) (by omega))

/-- a front no longer than what both share is not behind the other one -/
theorem cmp_take_shared : ∀ (a b : List UInt8) (n : Nat), n ≤ shared a b → 0 ≤ compareBytes a (b.take n)
  | [], b, n, h => by have : n = 0 := by simpa [shared] using h
                      subst this; simp [compareBytes]
  | a :: as, [], n, h => by simp [compareBytes]
  | a :: as, b :: bs, n, h => by
    cases n with
    | zero => simp [compareBytes]
    | succ n =>
      simp only [shared] at h
      split at h
      · rename_i e
        subst e
        rw [List.take_succ_cons, cmp_cons_eq]
        exact cmp_take_shared as bs n (by omega)
      · omega
/-- one byte more is behind, where the other one is -/
theorem cmp_take_cut : ∀ (a b : List UInt8), compareBytes a b < 0 → compareBytes a (b.take (shared a b + 1)) < 0
  | [], [], h => by simp [compareBytes] at h
  | [], b :: bs, _ => by simp [shared, compareBytes]
  | _ :: _, [], h => by simp [compareBytes] at h
  | a :: as, b :: bs, h => by
    rcases u8_tri a b with h1 | rfl | h1
    · rw [List.take_succ_cons, cmp_cons_lt _ _ h1]; omega
    · have e : shared (a :: as) (a :: bs) = shared as bs + 1 := by simp [shared]
      rw [e, List.take_succ_cons, cmp_cons_eq]
      rw [cmp_cons_eq] at h
      exact cmp_take_cut as bs h
    · rw [cmp_cons_gt _ _ h1] at h; omega
theorem shared_lt_of_lt : ∀ {a b : List UInt8}, compareBytes a b < 0 → shared a b < b.length
  | [], [], h => by simp [compareBytes] at h
  | [], b :: bs, _ => by simp [shared]
  | _ :: _, [], h => by simp [compareBytes] at h
  | a :: as, b :: bs, h => by
    rcases u8_tri a b with h1 | rfl | h1
    · have : a ≠ b := by intro e; subst e; exact u8_lt_irrefl _ h1
      simp [shared, this]
    · rw [cmp_cons_eq] at h
      have := shared_lt_of_lt h
      simp [shared]; omega
    · rw [cmp_cons_gt _ _ h1] at h; omega
/-- a front is not behind the whole -/
theorem cmp_take_le : ∀ (b : List UInt8) (n : Nat), compareBytes (b.take n) b ≤ 0
  | [], n => by simp [compareBytes]
  | b :: bs, 0 => by simp [compareBytes]
  | b :: bs, n + 1 => by rw [List.take_succ_cons, cmp_cons_eq]; exact cmp_take_le bs n

/-- what a loop over the bytes finds, byte by byte -/
theorem cmp_at_lt : ∀ {a b : List UInt8} {k : Nat}, k < a.length → k < b.length → (∀ j, j < k → a.getD j 0 = b.getD j 0) → a.getD k 0 < b.getD k 0 → compareBytes a b = -1
  | [], _, _, h, _, _, _ => by simp at h
  | _ :: _, [], _, _, h, _, _ => by simp at h
  | a :: as, b :: bs, 0, _, _, _, h => cmp_cons_lt _ _ (by simpa using h)
  | a :: as, b :: bs, k + 1, ha, hb, he, h => by
    have e : a = b := by simpa using he 0 (by omega)
    subst e
    rw [cmp_cons_eq]
    exact cmp_at_lt (k := k) (by simpa using ha) (by simpa using hb) (fun j hj => by simpa using he (j + 1) (by omega)) (by simpa using h)
theorem cmp_at_gt {a b : List UInt8} {k : Nat} (ha : k < a.length) (hb : k < b.length) (he : ∀ j, j < k → a.getD j 0 = b.getD j 0) (h : b.getD k 0 < a.getD k 0) : compareBytes a b = 1 := by
  have := cmp_at_lt hb ha (fun j hj => (he j hj).symm) h
  rw [cmp_neg, this]; rfl
theorem cmp_at_end : ∀ {a b : List UInt8}, (∀ j, j < a.length → j < b.length → a.getD j 0 = b.getD j 0) →
    compareBytes a b = if a.length < b.length then -1 else if b.length < a.length then 1 else 0
  | [], [], _ => by simp [compareBytes]
  | [], _ :: _, _ => by simp [compareBytes]
  | _ :: _, [], _ => by simp [compareBytes]
  | a :: as, b :: bs, he => by
    have e : a = b := by simpa using he 0 (by simp) (by simp)
    subst e
    rw [cmp_cons_eq, cmp_at_end (a := as) (b := bs) (fun j h1 h2 => by simpa using he (j + 1) (by simpa using h1) (by simpa using h2))]
    simp only [List.length_cons, Nat.add_lt_add_iff_right]
end Lx
end Go.Proofs.Ytlabbmfiecbigaa
