/-
  Heaps in a list (no code, no memory): a place is no less than the one above it; sifting down; the least one on top.
-/
namespace Go.Proofs.Ytlcdjbleeanpbaa
namespace Hp
section
variable {α : Type} [Inhabited α]
def gt (l : List α) (i : Nat) : α := l.getD i default
def swp (l : List α) (i j : Nat) : List α := (l.set i (gt l j)).set j (gt l i)
theorem gt_eq {l : List α} {i : Nat} (h : i < l.length) : gt l i = l[i] := by simp [gt, h]
theorem gt_some {l : List α} {i : Nat} {x : α} (h : l[i]? = some x) : gt l i = x := by simp [gt, h]
theorem swp_len (l : List α) (i j : Nat) : (swp l i j).length = l.length := by simp [swp]
theorem swp_perm {l : List α} {i j : Nat} (hi : i < l.length) (hj : j < l.length) : (swp l i j).Perm l := by
  unfold swp
  rw [gt_eq hi, gt_eq hj]
  exact List.set_set_perm hi hj
theorem gt_swp {l : List α} {i j : Nat} (hi : i < l.length) (hj : j < l.length) (k : Nat) : gt (swp l i j) k = if k = j then gt l i else if k = i then gt l j else gt l k := by
  unfold swp gt
  by_cases h1 : k = j
  · subst h1
    simp [hj]
  · rw [if_neg h1]
    by_cases h2 : k = i
    · subst h2
      have h3 : ¬ j = k := fun e => h1 e.symm
      simp [hi, h3]
    · have h3 : ¬ j = k := fun e => h1 e.symm
      have h4 : ¬ i = k := fun e => h2 e.symm
      simp [h2, h3, h4]
structure Ord (lt : α → α → Bool) : Prop where
  asym : ∀ a b, lt a b = true → lt b a = false
  trans : ∀ a b c, lt b a = false → lt c b = false → lt c a = false
/-- no place below those from k on is less than the one above it -/
def HpF (lt : α → α → Bool) (l : List α) (n k : Nat) : Prop := ∀ j, 0 < j → j < n → k ≤ (j - 1) / 2 → lt (gt l j) (gt l ((j - 1) / 2)) = false
/-- the same but below i; and what is below i is not less than what is above it -/
structure Sf (lt : α → α → Bool) (l : List α) (n k i : Nat) : Prop where
  le : k ≤ i
  most : ∀ j, 0 < j → j < n → k ≤ (j - 1) / 2 → (j - 1) / 2 ≠ i → lt (gt l j) (gt l ((j - 1) / 2)) = false
  over : k < i → ∀ j, 0 < j → j < n → (j - 1) / 2 = i → lt (gt l j) (gt l ((i - 1) / 2)) = false
variable {lt : α → α → Bool} {l : List α} {n k i : Nat}
theorem HpF.sf (h : HpF lt l n (k + 1)) : Sf lt l n k k := ⟨Nat.le_refl _, fun j h1 h2 h3 h4 => h j h1 h2 (by omega), fun h0 => by omega⟩
theorem Sf.stop (h : Sf lt l n k i) (hc : ∀ j, 0 < j → j < n → (j - 1) / 2 = i → lt (gt l j) (gt l i) = false) : HpF lt l n k := fun j h1 h2 h3 => by
  by_cases e : (j - 1) / 2 = i
  · rw [e]
    exact hc j h1 h2 e
  · exact h.most j h1 h2 h3 e
theorem Sf.step (ho : Ord lt) (h : Sf lt l n k i) (hn : n ≤ l.length) {j : Nat} (h0 : 0 < j) (hj : j < n) (hp : (j - 1) / 2 = i) (hlt : lt (gt l j) (gt l i) = true) (hc : ∀ c, 0 < c → c < n → (c - 1) / 2 = i → lt (gt l c) (gt l j) = false) : Sf lt (swp l i j) n k j := by
  have hij : i < j := by omega
  have hk := h.le
  have G := gt_swp (l := l) (i := i) (j := j) (by omega) (by omega)
  refine ⟨by omega, fun c h1 h2 h3 h4 => ?_, fun _ c h1 h2 h3 => ?_⟩
  · rw [G c, G ((c - 1) / 2), if_neg h4]
    by_cases e : (c - 1) / 2 = i
    · rw [if_pos e]
      by_cases e2 : c = j
      · rw [if_pos e2]
        exact ho.asym _ _ hlt
      · rw [if_neg e2, if_neg (by omega)]
        exact hc c h1 h2 e
    · rw [if_neg e, if_neg (by intro e2; subst e2; omega)]
      by_cases e2 : c = i
      · rw [if_pos e2]
        subst e2
        exact h.over (by omega) j h0 hj hp
      · rw [if_neg e2]
        exact h.most c h1 h2 h3 e
  · rw [G c, G ((j - 1) / 2), hp, if_neg (by omega), if_neg (by omega), if_neg (by omega), if_pos rfl]
    have := h.most c h1 h2 (by omega) (by omega)
    rw [h3] at this
    exact this
theorem HpF.root (ho : Ord lt) (hs : ∀ a, lt a a = false) (h : HpF lt l n 0) : ∀ m j, j < m → j < n → lt (gt l j) (gt l 0) = false
  | 0, j, hm, _ => by omega
  | m + 1, j, hm, hj => by
    by_cases h0 : j = 0
    · subst h0
      exact hs _
    · exact ho.trans _ _ _ (HpF.root ho hs h m ((j - 1) / 2) (by omega) (by omega)) (h j (by omega) hj (Nat.zero_le _))
theorem HpF.half (lt : α → α → Bool) (l : List α) (n : Nat) : HpF lt l n (n / 2) := fun j h1 h2 h3 => by omega
theorem HpF.congr {l' : List α} (h : HpF lt l n k) (he : ∀ i, i < n → gt l' i = gt l i) : HpF lt l' n k := fun j h1 h2 h3 => by
  rw [he j h2, he ((j - 1) / 2) (by omega)]
  exact h j h1 h2 h3
/-- the top taken to the end: the rest is a heap but at its top -/
theorem HpF.swap_top (h : HpF lt l (n + 1) 0) (hn : n < l.length) : HpF lt (swp l 0 n) n 1 := fun j h1 h2 h3 => by
  have G := gt_swp (l := l) (i := 0) (j := n) (by omega) hn
  rw [G j, G ((j - 1) / 2), if_neg (by omega), if_neg (by omega), if_neg (by omega), if_neg (by omega)]
  exact h j h1 (by omega) (by omega)
theorem gt_dropLast {i : Nat} (h : i + 1 < l.length) : gt l.dropLast i = gt l i := by
  unfold gt
  rw [List.getD_eq_getElem?_getD, List.getD_eq_getElem?_getD, List.getElem?_dropLast, if_pos (by omega)]
theorem dropLast_perm {m : Nat} (h : l.length = m + 1) : l.Perm (gt l m :: l.dropLast) := by
  have e : l = l.dropLast ++ [gt l m] := by
    have h1 : l ≠ [] := fun e => by rw [e] at h; simp at h
    have h2 := List.dropLast_concat_getLast h1
    rw [gt_eq (by omega)]
    rw [List.getLast_eq_getElem] at h2
    have h3 : l.length - 1 = m := by omega
    simp only [h3] at h2
    exact h2.symm
  have h1 : (l.dropLast ++ [gt l m]).Perm (gt l m :: l.dropLast) := List.perm_append_comm
  rw [← e] at h1
  exact h1
/-- what comes of it when the least one is taken -/
structure Took (lt : α → α → Bool) (l : List α) (x : α) (l' : List α) : Prop where
  perm : l.Perm (x :: l')
  heap : HpF lt l' l'.length 0
  least : ∀ y, y ∈ l' → lt y x = false
theorem took (ho : Ord lt) (hs : ∀ a, lt a a = false) (h : HpF lt l (n + 1) 0) (hn : l.length = n + 1) {l2 : List α} (h2 : HpF lt l2 n 0) (hp : l2.Perm (swp l 0 n)) (he : ∀ i, n ≤ i → gt l2 i = gt (swp l 0 n) i) : gt l2 n = gt l 0 ∧ Took lt l (gt l 0) l2.dropLast := by
  have hl2 : l2.length = n + 1 := by rw [hp.length_eq, swp_len, hn]
  have hg : gt l2 n = gt l 0 := by
    rw [he n (Nat.le_refl _), gt_swp (by omega) (by omega), if_pos rfl]
  have hpl : l.Perm (gt l 0 :: l2.dropLast) := by
    refine (swp_perm (l := l) (i := 0) (j := n) (by omega) (by omega)).symm.trans (hp.symm.trans ?_)
    have := dropLast_perm (l := l2) hl2
    rw [hg] at this
    exact this
  refine ⟨hg, hpl, ?_, fun y hy => ?_⟩
  · rw [List.length_dropLast, hl2, Nat.add_sub_cancel]
    exact h2.congr fun i hi => gt_dropLast (by omega)
  · have hm : y ∈ l := hpl.mem_iff.2 (List.mem_cons_of_mem _ hy)
    obtain ⟨j, hj⟩ := List.mem_iff_getElem?.1 hm
    have hj1 := (List.getElem?_eq_some_iff.1 hj).1
    rw [← gt_some hj]
    exact h.root ho hs (n + 1) j (by omega) (by omega)
end
end Hp
end Go.Proofs.Ytlcdjbleeanpbaa
