/-
  What a reader reads, forth and back: numbers, noughts, texts, lists of pieces (no memory).
-/
import Derived.Test.YteefkhgmcknbaaaCodeB
import Derived.Test.YteefkhgmcknbaaaReadPlain
namespace Go.Proofs.Yteefkhgmcknbaaa
open Go.RowKit
namespace No
open Mem
open Wd (be val be_length val_be isW St takeS numS zerosS textS spoilS zeroB take_spoilt take_some take_short take_ok spoil_ok)
section
variable {s : St}
theorem take_inv (h : s.ok) {n : Int} (h0 : 0 ≤ n) (he : (takeS s n).1.e = 0) : s.e = 0 ∧ (takeS s n).2.length = n.toNat ∧ s.b = (takeS s n).2 ++ (takeS s n).1.b := by
  by_cases h1 : s.e = 0
  · by_cases h2 : (s.b.length : Int) < n
    · rw [take_short s (by omega) h2] at he
      unfold spoilS at he
      rw [if_pos h1] at he
      cases he
    · rw [take_some s (by omega) h2]
      refine ⟨h1, ?_, (List.take_append_drop _ _).symm⟩
      rw [List.length_take]
      omega
  · rw [take_spoilt h h1] at he
    exact absurd he h1
theorem take_fwd {x R : List UInt8} {n : Int} (hn : n = x.length) : takeS ⟨x ++ R, 0⟩ n = (⟨R, 0⟩, x) := by
  subst hn
  rw [take_some _ (by omega) (by simp only [List.length_append]; omega)]
  simp
theorem num_ok (h : s.ok) (n : Int) : (numS s n).1.ok := by
  unfold numS
  split
  · exact take_ok h n
  · exact spoil_ok h _
theorem zeros_ok (h : s.ok) (n : Int) : (zerosS s n).ok := by
  unfold zerosS
  split
  · exact take_ok h n
  · exact spoil_ok (take_ok h n) _
theorem text_ok (h : s.ok) (n m : Int) : (textS s n m).1.ok := by
  unfold textS
  split
  · exact spoil_ok h _
  · split
    · exact take_ok h m
    · split
      · exact take_ok h m
      · exact spoil_ok (take_ok h m) _
theorem num_inv (h : s.ok) {w : Nat} (hw : isW (w : Int) = true) (he : (numS s w).1.e = 0) : s.e = 0 ∧ s.b = be w (numS s w).2 ++ (numS s w).1.b ∧ (numS s w).2 < 256 ^ w := by
  have e : numS s w = ((takeS s w).1, val (takeS s w).2) := by
    unfold numS
    rw [if_pos hw]
  rw [e] at he ⊢
  obtain ⟨h1, h2, h3⟩ := take_inv h (by omega) he
  have h4 : (takeS s (w : Int)).2.length = w := h2
  have h5 := Wd.be_val (takeS s (w : Int)).2
  have h6 := Wd.val_lt (takeS s (w : Int)).2
  rw [h4] at h5 h6
  refine ⟨h1, ?_, h6⟩
  show s.b = be w (val (takeS s w).2) ++ (takeS s w).1.b
  rw [h5]
  exact h3
theorem num_fwd {w v : Nat} {R : List UInt8} (hw : isW (w : Int) = true) (hv : v < 256 ^ w) : numS ⟨be w v ++ R, 0⟩ w = (⟨R, 0⟩, v) := by
  unfold numS
  rw [if_pos hw, take_fwd (by rw [be_length])]
  simp only
  rw [val_be, Nat.mod_eq_of_lt hv]
theorem zero_zs {l : List UInt8} (h : zeroB l = true) {n : Int} (hn : l.length = n.toNat) : l = zs n := by
  unfold zs
  rw [List.eq_replicate_iff]
  refine ⟨hn, fun x hx => ?_⟩
  unfold zeroB at h
  simpa using List.all_eq_true.1 h x hx
theorem zs_zero (n : Int) : zeroB (zs n) = true := by
  unfold zeroB zs
  rw [List.all_eq_true]
  intro x hx
  rw [List.eq_of_mem_replicate hx]
  rfl
theorem zeros_inv (h : s.ok) {n : Int} (h0 : 0 ≤ n) (he : (zerosS s n).e = 0) : s.e = 0 ∧ s.b = zs n ++ (zerosS s n).b := by
  unfold zerosS at he ⊢
  split at he
  · rename_i h1
    rw [if_pos h1]
    obtain ⟨h2, h3, h4⟩ := take_inv h h0 he
    rw [← zero_zs h1 h3]
    exact ⟨h2, h4⟩
  · unfold spoilS at he
    split at he
    · cases he
    · rename_i h2
      exact absurd he h2
theorem zeros_fwd {n : Int} {R : List UInt8} (h0 : 0 ≤ n) : zerosS ⟨zs n ++ R, 0⟩ n = ⟨R, 0⟩ := by
  unfold zerosS
  rw [take_fwd (by rw [zs_len]; omega)]
  simp only
  rw [if_pos (zs_zero n)]
theorem text_inv (h : s.ok) {n m : Int} (he : (textS s n m).1.e = 0) : s.e = 0 ∧ 0 ≤ n ∧ n ≤ m ∧ (textS s n m).2.length = n.toNat ∧ s.b = slotL (textS s n m).2 m ++ (textS s n m).1.b := by
  unfold textS at he ⊢
  split at he
  · by_cases h1 : s.e = 0
    · unfold spoilS at he
      rw [if_pos h1] at he
      cases he
    · unfold spoilS at he
      rw [if_neg h1] at he
      exact absurd he h1
  · rename_i h1
    rw [if_neg h1]
    have h0 : 0 ≤ n ∧ n ≤ m := by omega
    split at he
    · rename_i h2
      obtain ⟨h3, h4, -⟩ := take_inv h (by omega) he
      rw [h4] at h2
      omega
    · rename_i h2
      rw [if_neg h2]
      split at he
      · rename_i h5
        rw [if_pos h5]
        obtain ⟨h3, h4, h6⟩ := take_inv h (by omega) he
        have h7 : ((takeS s m).2.take n.toNat).length = n.toNat := by
          rw [List.length_take, h4]
          omega
        refine ⟨h3, h0.1, h0.2, h7, ?_⟩
        simp only
        unfold slotL
        have h8 : (takeS s m).2.drop n.toNat = zs (m - n) := zero_zs h5 (by rw [List.length_drop, h4]; omega)
        rw [h7, show m - ((n.toNat : Nat) : Int) = m - n by omega, ← h8, List.take_append_drop]
        exact h6
      · unfold spoilS at he
        split at he
        · cases he
        · rename_i h6
          exact absurd he h6
theorem text_fwd {t R : List UInt8} {n m : Int} (hn : n = t.length) (hm : n ≤ m) : textS ⟨slotL t m ++ R, 0⟩ n m = (⟨R, 0⟩, t) := by
  have hl : (slotL t m).length = m.toNat := slotL_len (by omega)
  have ht : takeS ⟨slotL t m ++ R, 0⟩ m = (⟨R, 0⟩, slotL t m) := take_fwd (by rw [hl]; omega)
  unfold textS
  rw [if_neg (by omega), ht]
  simp only
  rw [if_neg (by rw [hl]; omega)]
  have hd : (slotL t m).drop n.toNat = zs (m - t.length) := by
    unfold slotL
    exact List.drop_left' (by omega)
  have hk : (slotL t m).take n.toNat = t := by
    unfold slotL
    exact List.take_left' (by omega)
  rw [hd, if_pos (zs_zero _), hk]
end
/-! ### lists of pieces -/
def rdS {α : Type} (f : St → St × α) : Nat → St → St × List α
  | 0, s => (s, [])
  | k + 1, s => ((f (rdS f k s).1).1, (rdS f k s).2 ++ [(f (rdS f k s).1).2])
section
variable {α : Type} {f : St → St × α} {g : α → List UInt8}
theorem rdS_len (k : Nat) (s : St) : (rdS f k s).2.length = k := by
  induction k with
  | zero => rfl
  | succ k ih => simp [rdS, ih]
theorem rdS_ok (hf : ∀ s, s.ok → (f s).1.ok) {s : St} (h : s.ok) (k : Nat) : (rdS f k s).1.ok := by
  induction k with
  | zero => exact h
  | succ k ih => exact hf _ ih
theorem rdS_inv {P : α → Prop} (hf : ∀ s, s.ok → (f s).1.ok) (hi : ∀ s, s.ok → (f s).1.e = 0 → s.e = 0 ∧ s.b = g (f s).2 ++ (f s).1.b ∧ P (f s).2) {s : St} (h : s.ok) {k : Nat} (he : (rdS f k s).1.e = 0) : s.e = 0 ∧ s.b = (rdS f k s).2.flatMap g ++ (rdS f k s).1.b ∧ ∀ x ∈ (rdS f k s).2, P x := by
  induction k with
  | zero => exact ⟨he, by simp [rdS], by simp [rdS]⟩
  | succ k ih =>
    obtain ⟨h1, h2, h3⟩ := hi _ (rdS_ok hf h k) he
    obtain ⟨h4, h5, h6⟩ := ih h1
    refine ⟨h4, ?_, fun x hx => ?_⟩
    · show s.b = ((rdS f k s).2 ++ [(f (rdS f k s).1).2]).flatMap g ++ (f (rdS f k s).1).1.b
      rw [List.flatMap_append, h5, h2]
      simp
    · rcases List.mem_append.1 hx with hx | hx
      · exact h6 x hx
      · obtain rfl := List.mem_singleton.1 hx
        exact h3
theorem rdS_fwd {R : List UInt8} {L : List α} (hf : ∀ x ∈ L, ∀ R, f ⟨g x ++ R, 0⟩ = (⟨R, 0⟩, x)) : rdS f L.length ⟨L.flatMap g ++ R, 0⟩ = (⟨R, 0⟩, L) := by
  suffices h : ∀ k, k ≤ L.length → rdS f k ⟨L.flatMap g ++ R, 0⟩ = (⟨(L.drop k).flatMap g ++ R, 0⟩, L.take k) by
    have := h L.length (Nat.le_refl _)
    simpa using this
  intro k
  induction k with
  | zero => intro _; simp [rdS]
  | succ k ih =>
    intro hk
    have h1 := ih (by omega)
    have hx : L.drop k = L[k] :: L.drop (k + 1) := List.drop_eq_getElem_cons (by omega)
    show ((f (rdS f k _).1).1, (rdS f k _).2 ++ [(f (rdS f k _).1).2]) = _
    rw [h1]
    simp only
    rw [hx, List.flatMap_cons, List.append_assoc, hf _ (List.getElem_mem _)]
    simp only
    rw [List.take_succ_eq_append_getElem (by omega)]
end
theorem num_lt (s : St) {w : Nat} (hw : isW (w : Int) = true) (h4 : w ≤ 4) : (numS s w).2 < 4294967296 := by
  unfold numS
  rw [if_pos hw]
  simp only
  have h1 := Wd.val_lt (takeS s (w : Int)).2
  have h2 := Wd.take_len s (w : Int)
  rw [if_neg (by omega)] at h2
  have h3 : (256 : Nat) ^ (takeS s (w : Int)).2.length ≤ 256 ^ 4 := Nat.pow_le_pow_right (by decide) (by omega)
  have h5 : (256 : Nat) ^ 4 = 4294967296 := by decide
  omega
end No
end Go.Proofs.Yteefkhgmcknbaaa
