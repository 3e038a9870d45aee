/-
  Blocks given out: plain: the lowest ones that are free, one by one; those that are held. No program.
-/
import Derived.Test.YtndbbpdggggenaaDoorBitsPlain
namespace Go.Proofs.YtndbbpdggggenaaDoor.Po
open Bt

/-- all places ahead of p taken -/
def fill (tb : List Bool) : Nat → List Bool
  | 0 => tb
  | p + 1 => (fill tb p).set p true
/-- the free places ahead of p -/
def frs (tb : List Bool) : Nat → List Nat
  | 0 => []
  | p + 1 => frs tb p ++ (if tb.getD p false then [] else [p])
/-- the taken places ahead of p -/
def tks (tb : List Bool) : Nat → List Nat
  | 0 => []
  | p + 1 => tks tb p ++ (if tb.getD p false then [p] else [])
def free (tb : List Bool) : Nat := tb.length - cnt tb
theorem cnt_le (tb : List Bool) : cnt tb ≤ tb.length := pc_le _ _
theorem fill_len (tb : List Bool) : ∀ p, (fill tb p).length = tb.length
  | 0 => rfl
  | p + 1 => by unfold fill; rw [List.length_set, fill_len tb p]
theorem fill_from (tb : List Bool) : ∀ (p i : Nat), p ≤ i → (fill tb p).getD i false = tb.getD i false
  | 0, _, _ => rfl
  | p + 1, i, h => by
    unfold fill
    by_cases hp : p < tb.length
    · rw [getD_set _ _ _ _ _ (by rw [fill_len]; exact hp), if_neg (by omega), fill_from tb p i (by omega)]
    · rw [List.set_eq_of_length_le (by rw [fill_len]; omega), fill_from tb p i (by omega)]
/-- between p and q all are taken -/
def Full (tb : List Bool) (p q : Nat) : Prop := ∀ j, p ≤ j → j < q → tb.getD j false = true
theorem fill_full (tb : List Bool) (p : Nat) : ∀ d, p + d ≤ tb.length → Full tb p (p + d) → fill tb (p + d) = fill tb p ∧ frs tb (p + d) = frs tb p
  | 0, _, _ => ⟨rfl, rfl⟩
  | d + 1, h, hf => by
    obtain ⟨h1, h2⟩ := fill_full tb p d (by omega) fun j h3 h4 => hf j h3 (by omega)
    have h5 := hf (p + d) (by omega) (by omega)
    refine ⟨?_, ?_⟩
    · show (fill tb (p + d)).set (p + d) true = fill tb p
      rw [set_same (by rw [fill_len]; omega) (by rw [fill_from tb _ _ (Nat.le_refl _)]; exact h5), h1]
    · show frs tb (p + d) ++ (if tb.getD (p + d) false then [] else [p + d]) = frs tb p
      rw [h5, h2]; simp
theorem frs_len (tb : List Bool) : ∀ p, (frs tb p).length = pc (fun i => !tb.getD i false) p
  | 0 => rfl
  | p + 1 => by
    unfold frs pc
    rw [List.length_append, frs_len tb p]
    cases tb.getD p false <;> rfl
theorem frs_all (tb : List Bool) : (frs tb tb.length).length = free tb := by rw [frs_len, pc_not]; rfl
theorem frs_grow (tb : List Bool) (p : Nat) : ∀ d, (frs tb p).length ≤ (frs tb (p + d)).length
  | 0 => Nat.le_refl _
  | d + 1 => by
    have := frs_grow tb p d
    show _ ≤ (frs tb (p + d) ++ _).length
    rw [List.length_append]; omega
theorem frs_even (tb : List Bool) (p : Nat) : ∀ d, (frs tb (p + d)).length = (frs tb p).length → Full tb p (p + d)
  | 0, _ => fun j h1 h2 => by omega
  | d + 1, h => by
    have h1 := frs_grow tb p d
    have h2 : (frs tb (p + d) ++ (if tb.getD (p + d) false then [] else [p + d])).length = (frs tb p).length := h
    rw [List.length_append] at h2
    intro j h3 h4
    by_cases hj : j = p + d
    · subst hj
      cases hv : tb.getD (p + d) false with
      | true => rfl
      | false => rw [hv] at h2; simp at h2; omega
    · exact frs_even tb p d (by omega) j h3 (by omega)
/-- t is tb with its k lowest free places taken: l -/
def Got (tb : List Bool) (k : Nat) (t : List Bool) (l : List Nat) : Prop := ∃ p, p ≤ tb.length ∧ t = fill tb p ∧ l = frs tb p ∧ l.length = k
theorem Got.one {tb : List Bool} {k : Nat} {t t' : List Bool} {l l' : List Nat} (h : Got tb k t l) (h' : Got tb k t' l') : t = t' ∧ l = l' := by
  have key : ∀ p q, p ≤ q → q ≤ tb.length → (frs tb p).length = (frs tb q).length → fill tb q = fill tb p ∧ frs tb q = frs tb p := by
    intro p q h1 h2 h3
    obtain ⟨d, rfl⟩ : ∃ d, q = p + d := ⟨q - p, by omega⟩
    exact fill_full tb p d h2 (frs_even tb p d h3.symm)
  obtain ⟨p, h1, rfl, rfl, h2⟩ := h
  obtain ⟨q, h3, rfl, rfl, h4⟩ := h'
  rcases Nat.le_total p q with hpq | hpq
  · obtain ⟨e1, e2⟩ := key p q hpq h3 (by omega)
    exact ⟨e1.symm, e2.symm⟩
  · obtain ⟨e1, e2⟩ := key q p hpq h1 (by omega)
    exact ⟨e1, e2⟩
theorem Got.len {tb : List Bool} {k : Nat} {t : List Bool} {l : List Nat} (h : Got tb k t l) : t.length = tb.length ∧ l.length = k := by
  obtain ⟨p, _, rfl, _, h4⟩ := h
  exact ⟨fill_len tb p, h4⟩
theorem frs_lt (tb : List Bool) : ∀ (p x : Nat), x ∈ frs tb p → x < p
  | 0, x, h => by cases h
  | p + 1, x, h => by
    unfold frs at h
    rcases List.mem_append.1 h with h | h
    · exact Nat.lt_succ_of_lt (frs_lt tb p x h)
    · split at h
      · cases h
      · obtain rfl : x = p := by simpa using h
        omega
theorem Got.lt {tb : List Bool} {k : Nat} {t : List Bool} {l : List Nat} (h : Got tb k t l) {x : Nat} (hx : x ∈ l) : x < tb.length := by
  obtain ⟨p, h1, _, rfl, _⟩ := h
  exact Nat.lt_of_lt_of_le (frs_lt tb p x hx) h1
/-- the next free one: where the walk of the pool stands behind it -/
theorem next_free {tb : List Bool} {q a k : Nat} (hq : q ≤ tb.length) (ha : a ≤ q) (hf : ∀ j, a ≤ j → j < q → (fill tb q).getD j false = true) (hk : (frs tb q).length < k) (hkf : k ≤ free tb) :
    ∃ r, q ≤ r ∧ r < tb.length ∧ firstO (fill tb q) (a : Int) false = some r ∧ (fill tb q).getD r false = false ∧ (fill tb q).set r true = fill tb (r + 1) ∧ frs tb (r + 1) = frs tb q ++ [r] := by
  cases ho : firstO (fill tb q) (a : Int) false with
  | none =>
    have hno := firstO_none ho
    obtain ⟨d, hd⟩ : ∃ d, tb.length = q + d := ⟨tb.length - q, by omega⟩
    have hfull : Full tb q (q + d) := fun j h1 h2 => by
      have := hno j (by omega) (by rw [fill_len]; omega)
      rw [fill_from tb q j h1] at this
      simpa using this
    have := (fill_full tb q d (by omega) hfull).2
    rw [← hd] at this
    have h2 := frs_all tb
    rw [this] at h2
    omega
  | some r =>
    obtain ⟨h1, h2, h3, h4⟩ := firstO_some ho
    rw [fill_len] at h2
    have hqr : q ≤ r := by
      rcases Nat.lt_or_ge r q with h | h
      · rw [hf r (by omega) h] at h3; cases h3
      · exact h
    obtain ⟨d, rfl⟩ : ∃ d, r = q + d := ⟨r - q, by omega⟩
    have hfull : Full tb q (q + d) := fun j h5 h6 => by
      have := h4 j (by omega) h6
      rw [fill_from tb q j h5] at this
      simpa using this
    obtain ⟨e1, e2⟩ := fill_full tb q d (by omega) hfull
    refine ⟨q + d, hqr, h2, rfl, h3, ?_, ?_⟩
    · show _ = (fill tb (q + d)).set (q + d) true
      rw [e1]
    · show frs tb (q + d) ++ (if tb.getD (q + d) false then [] else [q + d]) = _
      rw [fill_from tb q _ hqr] at h3
      rw [e2, h3]; rfl
theorem fill_at (tb : List Bool) (r : Nat) (hr : r < tb.length) : (fill tb (r + 1)).getD r false = true := by
  show ((fill tb r).set r true).getD r false = true
  rw [getD_set _ _ _ _ _ (by rw [fill_len]; exact hr), if_pos rfl]

/-! ### what is told of Mark and Give -/
def grE (tb : List Bool) (k : Int) : Int := if k < 0 then 2 else if (free tb : Int) < k then 11 else 0
def gvE (tb : List Bool) (i : Nat) : Int := if i = 0 then 2 else clrE tb i
def gvT (tb : List Bool) (i : Nat) : List Bool := if i = 0 then tb else clrT tb i
theorem gvT_len (tb : List Bool) (i : Nat) : (gvT tb i).length = tb.length := by
  unfold gvT
  split
  · rfl
  · exact clrT_len _ _
theorem in_lt {tb : List Bool} {i : Nat} (h : i < tb.length) : inB tb i = true := by unfold inB; simp; omega
theorem in_ge {tb : List Bool} {i : Nat} (h : ¬ i < tb.length) : inB tb i = false := by unfold inB; simp; omega

/-! ### those that are taken, rising -/
theorem tks_len (tb : List Bool) : ∀ p, (tks tb p).length = pc (fun i => tb.getD i false) p
  | 0 => rfl
  | p + 1 => by
    unfold tks pc
    rw [List.length_append, tks_len tb p]
    cases tb.getD p false <;> rfl
theorem tks_all (tb : List Bool) : (tks tb tb.length).length = cnt tb := tks_len tb _
theorem tks_skip (tb : List Bool) (p : Nat) : ∀ d, (∀ j, p ≤ j → j < p + d → tb.getD j false ≠ true) → tks tb (p + d) = tks tb p
  | 0, _ => rfl
  | d + 1, h => by
    show tks tb (p + d) ++ (if tb.getD (p + d) false then [p + d] else []) = _
    rw [tks_skip tb p d fun j h1 h2 => h j h1 (by omega)]
    have := h (p + d) (by omega) (by omega)
    rw [if_neg this, List.append_nil]
theorem tks_none {tb : List Bool} {f : Nat} (hf : f ≤ tb.length) (h : firstO tb (f : Int) true = none) : tks tb tb.length = tks tb f := by
  obtain ⟨d, hd⟩ : ∃ d, tb.length = f + d := ⟨tb.length - f, by omega⟩
  rw [hd]
  exact tks_skip tb f d fun j h1 h2 => firstO_none h j (by omega) (by omega)
theorem tks_some {tb : List Bool} {f r : Nat} (h : firstO tb (f : Int) true = some r) : r < tb.length ∧ f ≤ r ∧ tks tb (r + 1) = tks tb f ++ [r] := by
  obtain ⟨h1, h2, h3, h4⟩ := firstO_some h
  refine ⟨h2, by omega, ?_⟩
  obtain ⟨d, rfl⟩ : ∃ d, r = f + d := ⟨r - f, by omega⟩
  show tks tb (f + d) ++ (if tb.getD (f + d) false then [f + d] else []) = _
  rw [h3, tks_skip tb f d fun j h5 h6 => h4 j (by omega) h6]; rfl
theorem tks_lt (tb : List Bool) : ∀ (p x : Nat), x ∈ tks tb p → x < p
  | 0, x, h => by cases h
  | p + 1, x, h => by
    unfold tks at h
    rcases List.mem_append.1 h with h | h
    · exact Nat.lt_succ_of_lt (tks_lt tb p x h)
    · split at h
      · obtain rfl : x = p := by simpa using h
        omega
      · cases h

/-! ### those given out, one by one -/
def setAll (tb : List Bool) (l : List Nat) : List Bool := l.foldl (fun t x => t.set x true) tb
theorem setAll_append (tb : List Bool) (a b : List Nat) : setAll tb (a ++ b) = setAll (setAll tb a) b := by unfold setAll; rw [List.foldl_append]
theorem setAll_len : ∀ (tb : List Bool) (l : List Nat), (setAll tb l).length = tb.length
  | _, [] => rfl
  | tb, x :: l => by
    show (setAll (tb.set x true) l).length = _
    rw [setAll_len _ l, List.length_set]
theorem setAll_frs (tb : List Bool) : ∀ p, p ≤ tb.length → setAll tb (frs tb p) = fill tb p
  | 0, _ => rfl
  | p + 1, h => by
    have ih := setAll_frs tb p (by omega)
    unfold frs
    rw [setAll_append, ih]
    cases hv : tb.getD p false with
    | true =>
      show fill tb p = (fill tb p).set p true
      exact (set_same (by rw [fill_len]; omega) (by rw [fill_from tb p p (Nat.le_refl _)]; exact hv)).symm
    | false => rfl
/-- each of l is free till it is taken -/
def Fresh (tb : List Bool) (l : List Nat) : Prop := ∀ k (h : k < l.length), (setAll tb (l.take k)).getD l[k] false = false
theorem frs_fresh (tb : List Bool) : ∀ p, p ≤ tb.length → Fresh tb (frs tb p)
  | 0, _ => fun k h => absurd h (by simp [frs])
  | p + 1, hp => by
    have ih := frs_fresh tb p (by omega)
    cases hv : tb.getD p false with
    | true =>
      have e : frs tb (p + 1) = frs tb p := by
        show frs tb p ++ (if tb.getD p false then [] else [p]) = _
        rw [hv]; simp
      rw [e]; exact ih
    | false =>
      have e : frs tb (p + 1) = frs tb p ++ [p] := by
        show frs tb p ++ (if tb.getD p false then [] else [p]) = _
        rw [hv]; rfl
      rw [e]
      intro k h
      by_cases hk : k < (frs tb p).length
      · rw [List.take_append_of_le_length (by omega), List.getElem_append_left hk]
        exact ih k hk
      · have hk' : k = (frs tb p).length := by simp at h; omega
        subst hk'
        rw [List.take_left', List.getElem_append_right (Nat.le_refl _)]
        · simp only [Nat.sub_self, List.getElem_cons_zero]
          rw [setAll_frs tb p (by omega), fill_from tb p p (Nat.le_refl _)]
          exact hv
        · rfl
theorem Got.fresh {tb : List Bool} {k : Nat} {t : List Bool} {l : List Nat} (h : Got tb k t l) : Fresh tb l ∧ setAll tb l = t := by
  obtain ⟨p, h1, rfl, rfl, _⟩ := h
  exact ⟨frs_fresh tb p h1, setAll_frs tb p h1⟩
end Go.Proofs.YtndbbpdggggenaaDoor.Po
