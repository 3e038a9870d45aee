/-
  SortP. Put together by pack.py.
-/
import Derived.Test.YtlabbmfiecbigaaPkAE
import Derived.Lib.Hide

namespace Go.Proofs.Ytlabbmfiecbigaa
namespace St
open Go.RowKit Lx Bu
theorem le_self (a : ByteArray) : cmpB a a ≤ 0 := by
  have := cmpB_self a
  omega
theorem le_tr {a b c : ByteArray} (h : cmpB a b ≤ 0) (k : cmpB b c ≤ 0) : cmpB a c ≤ 0 := cmp_trans_le h k
theorem lt_le {a b c : ByteArray} (h : cmpB a b < 0) (k : cmpB b c ≤ 0) : cmpB a c < 0 := cmp_trans_lt_le h k
theorem le_lt {a b c : ByteArray} (h : cmpB a b ≤ 0) (k : cmpB b c < 0) : cmpB a c < 0 := cmp_trans_le_lt h k
theorem ge_of {a b : ByteArray} (h : ¬ cmpB a b < 0) : cmpB b a ≤ 0 := by
  have := cmpB_neg a b
  omega
section
variable {α : Type} (ke : α → ByteArray)
/-- the keys are in order -/
def Sd (L : List α) : Prop := L.Pairwise fun x y => cmpB (ke x) (ke y) ≤ 0
/-- the same, those of one key in the order they had -/
def Stb (L L' : List α) : Prop := L'.Perm L ∧ ∀ k, L'.filter (fun x => decide (ke x = k)) = L.filter (fun x => decide (ke x = k))
variable {ke} {A B C D L L' L'' : List α}
theorem Sd.at_ (h : Sd ke L) {i j : Nat} {x y : α} (hx : L[i]? = some x) (hy : L[j]? = some y) (hij : i ≤ j) : cmpB (ke x) (ke y) ≤ 0 := by
  rcases Nat.lt_or_ge i j with h1 | h1
  · obtain ⟨h2, e1⟩ := List.getElem?_eq_some_iff.1 hx
    obtain ⟨h3, e2⟩ := List.getElem?_eq_some_iff.1 hy
    subst e1 e2
    exact List.pairwise_iff_getElem.1 h i j h2 h3 h1
  · obtain rfl : i = j := by omega
    rw [hx] at hy
    cases hy
    exact le_self _
theorem sd_app : Sd ke (A ++ B) ↔ Sd ke A ∧ Sd ke B ∧ ∀ a, a ∈ A → ∀ b, b ∈ B → cmpB (ke a) (ke b) ≤ 0 := List.pairwise_append
theorem sd_cons {x : α} : Sd ke (x :: B) ↔ (∀ b, b ∈ B → cmpB (ke x) (ke b) ≤ 0) ∧ Sd ke B := List.pairwise_cons
theorem sd_nil : Sd ke ([] : List α) := List.Pairwise.nil
theorem sd_few (h : L.length ≤ 1) : Sd ke L := by
  cases L with
  | nil => exact sd_nil
  | cons x l =>
    cases l with
    | nil => exact List.pairwise_singleton _ _
    | cons y l => simp at h
theorem Stb.refl (L : List α) : Stb ke L L := ⟨List.Perm.refl _, fun _ => rfl⟩
theorem Stb.trans (h : Stb ke L L') (k : Stb ke L' L'') : Stb ke L L'' := ⟨k.1.trans h.1, fun x => (k.2 x).trans (h.2 x)⟩
theorem Stb.app (h : Stb ke A B) (k : Stb ke C D) : Stb ke (A ++ C) (B ++ D) := ⟨h.1.append k.1, fun x => by rw [List.filter_append, List.filter_append, h.2 x, k.2 x]⟩
theorem Stb.mem (h : Stb ke L L') {x : α} : x ∈ L' ↔ x ∈ L := h.1.mem_iff
theorem Stb.len (h : Stb ke L L') : L'.length = L.length := h.1.length_eq
theorem stb_flip (h : ∀ a, a ∈ A → ∀ b, b ∈ B → ke a ≠ ke b) : Stb ke (A ++ B) (B ++ A) := by
  refine ⟨List.perm_append_comm, fun k => ?_⟩
  rw [List.filter_append, List.filter_append]
  by_cases hA : ∃ a, a ∈ A ∧ ke a = k
  · obtain ⟨a, ha, hk⟩ := hA
    have : B.filter (fun x => decide (ke x = k)) = [] := by
      rw [List.filter_eq_nil_iff]
      intro b hb
      have := h a ha b hb
      rw [hk] at this
      simpa using fun e => this (e.symm)
    rw [this]
    simp
  · have : A.filter (fun x => decide (ke x = k)) = [] := by
      rw [List.filter_eq_nil_iff]
      intro a ha
      simpa using fun e => hA ⟨a, ha, e⟩
    rw [this]
    simp
/-! ### two lists, the ends that meet -/
theorem all_lt (hA : Sd ke A) (hB : Sd ke B) (h : ∀ a b, A[A.length - 1]? = some a → B[0]? = some b → cmpB (ke a) (ke b) < 0) : ∀ a, a ∈ A → ∀ b, b ∈ B → cmpB (ke a) (ke b) < 0 := fun a ha b hb => by
  obtain ⟨i, hi⟩ := List.getElem?_of_mem ha
  obtain ⟨j, hj⟩ := List.getElem?_of_mem hb
  have h1 := (List.getElem?_eq_some_iff.1 hi).1
  have h2 := (List.getElem?_eq_some_iff.1 hj).1
  have e1 : A[A.length - 1]? = some (A[A.length - 1]'(by omega)) := List.getElem?_eq_getElem _
  have e2 : B[0]? = some (B[0]'(by omega)) := List.getElem?_eq_getElem _
  exact le_lt (hA.at_ hi e1 (by omega)) (lt_le (h _ _ e1 e2) (hB.at_ e2 hj (by omega)))
theorem all_le (hA : Sd ke A) (hB : Sd ke B) (h : ∀ a b, A[A.length - 1]? = some a → B[0]? = some b → cmpB (ke a) (ke b) ≤ 0) : ∀ a, a ∈ A → ∀ b, b ∈ B → cmpB (ke a) (ke b) ≤ 0 := fun a ha b hb => by
  obtain ⟨i, hi⟩ := List.getElem?_of_mem ha
  obtain ⟨j, hj⟩ := List.getElem?_of_mem hb
  have h1 := (List.getElem?_eq_some_iff.1 hi).1
  have h2 := (List.getElem?_eq_some_iff.1 hj).1
  have e1 : A[A.length - 1]? = some (A[A.length - 1]'(by omega)) := List.getElem?_eq_getElem _
  have e2 : B[0]? = some (B[0]'(by omega)) := List.getElem?_eq_getElem _
  exact le_tr (hA.at_ hi e1 (by omega)) (le_tr (h _ _ e1 e2) (hB.at_ e2 hj (by omega)))
theorem ne_of_lt {a b : ByteArray} (h : cmpB a b < 0) : b ≠ a := fun e => by
  subst e
  have := cmpB_self b
  omega
/-! ### one moved down: insertion -/
section
variable (ke)
/-- the first k of U are in order -/
def InsO (P U S L : List α) (k : Nat) : Prop := ∃ X R, L = P ++ (X ++ (R ++ S)) ∧ X.length = min k U.length ∧ X.length + R.length = U.length ∧ Sd ke X ∧ Stb ke U (X ++ R)
/-- one of them, at place j, is on its way down -/
def InsI (P U S L : List α) (k j : Nat) : Prop := ∃ A y B R, L = P ++ (A ++ (y :: (B ++ (R ++ S)))) ∧ A.length = j ∧ j + B.length = k ∧ k + 1 + R.length = U.length ∧ Sd ke (A ++ B) ∧ (∀ b, b ∈ B → cmpB (ke y) (ke b) < 0) ∧ Stb ke U (A ++ (y :: (B ++ R)))
end
variable {P U S V T X Y M : List α} {i j k a b m n : Nat}
theorem insO_start : InsO ke P U S (P ++ (U ++ S)) 1 := by
  refine ⟨U.take 1, U.drop 1, ?_, by simp, by simp; omega, sd_few (by simp; omega), ?_⟩
  · rw [← List.append_assoc (U.take 1), List.take_append_drop]
  · rw [List.take_append_drop]
    exact Stb.refl _
theorem insO_end (h : InsO ke P U S L k) (hk : U.length ≤ k) : ∃ X, L = P ++ (X ++ S) ∧ Sd ke X ∧ Stb ke U X := by
  obtain ⟨X, R, rfl, h1, h2, h3, h4⟩ := h
  obtain rfl : R = [] := List.eq_nil_of_length_eq_zero (by omega)
  exact ⟨X, rfl, h3, by simpa using h4⟩
theorem insI_start (h : InsO ke P U S L k) (hk : k < U.length) : InsI ke P U S L k k := by
  obtain ⟨X, R, rfl, h1, h2, h3, h4⟩ := h
  cases R with
  | nil => simp at h2; omega
  | cons y R =>
    refine ⟨X, y, [], R, rfl, by omega, by simp, by simp at h2; omega, by simpa using h3, fun b hb => (by cases hb), h4⟩
theorem ins_sd {y : α} (h : Sd ke (A ++ B)) (hy : ∀ b, b ∈ B → cmpB (ke y) (ke b) < 0) (hA : ∀ a, a ∈ A → cmpB (ke a) (ke y) ≤ 0) : Sd ke (A ++ (y :: B)) := by
  obtain ⟨h1, h2, h3⟩ := sd_app.1 h
  refine sd_app.2 ⟨h1, sd_cons.2 ⟨fun b hb => Int.le_of_lt (hy b hb), h2⟩, fun a ha b hb => ?_⟩
  rcases List.mem_cons.1 hb with rfl | hb
  · exact hA a ha
  · exact h3 a ha b hb
theorem insI_done {y : α} {R : List α} (hL : L = P ++ (A ++ (y :: (B ++ (R ++ S))))) (h1 : A.length = j) (h2 : j + B.length = k) (h3 : k + 1 + R.length = U.length) (h4 : Sd ke (A ++ B)) (h5 : ∀ b, b ∈ B → cmpB (ke y) (ke b) < 0) (h6 : Stb ke U (A ++ (y :: (B ++ R)))) (hA : ∀ a, a ∈ A → cmpB (ke a) (ke y) ≤ 0) : InsO ke P U S L (k + 1) :=
  ⟨A ++ (y :: B), R, by rw [hL]; simp, by simp; omega, by simp; omega, ins_sd h4 h5 hA, by simpa using h6⟩
theorem insI_zero (h : InsI ke P U S L k 0) : InsO ke P U S L (k + 1) := by
  obtain ⟨A, y, B, R, hL, h1, h2, h3, h4, h5, h6⟩ := h
  obtain rfl : A = [] := List.eq_nil_of_length_eq_zero h1
  exact insI_done hL h1 h2 h3 h4 h5 h6 fun a ha => by cases ha
theorem two_at {x y : α} (hi : A.length = i) : (A ++ (x :: (y :: B)))[i + 1]? = some y ∧ (A ++ (x :: (y :: B)))[i]? = some x := by
  subst hi
  constructor <;> simp
theorem two_set {x y : α} (hi : A.length = i) : ((A ++ (x :: (y :: B))).set (i + 1) x).set i y = A ++ (y :: (x :: B)) := by
  subst hi
  simp
theorem two_set' {x y : α} (hi : A.length = i) : ((A ++ (x :: (y :: B))).set i y).set (i + 1) x = A ++ (y :: (x :: B)) := by
  subst hi
  simp
theorem insI_pair (h : InsI ke P U S L k (j + 1)) (ha : P.length = a) : ∃ x y, L[a + j + 1]? = some x ∧ L[a + j]? = some y ∧ (¬ cmpB (ke x) (ke y) < 0 → InsO ke P U S L (k + 1)) ∧ (cmpB (ke x) (ke y) < 0 → InsI ke P U S ((L.set (a + j + 1) y).set (a + j) x) k j) := by
  obtain ⟨A, x, B, R, hL, h1, h2, h3, h4, h5, h6⟩ := h
  have hne : A ≠ [] := by rintro rfl; simp at h1
  obtain ⟨A', y, rfl⟩ : ∃ A' y, A = A' ++ [y] := ⟨A.dropLast, A.getLast hne, (List.dropLast_concat_getLast hne).symm⟩
  have hk : A'.length = j := by simpa using h1
  have e : L = (P ++ A') ++ (y :: (x :: (B ++ (R ++ S)))) := by rw [hL]; simp
  have hl : (P ++ A').length = a + j := by rw [List.length_append]; omega
  refine ⟨x, y, by rw [e]; exact (two_at hl).1, by rw [e]; exact (two_at hl).2, fun hyx => ?_, fun hxy => ?_⟩
  · refine insI_done hL h1 h2 h3 h4 h5 h6 fun a' ha' => ?_
    have h7 : cmpB (ke y) (ke x) ≤ 0 := ge_of hyx
    obtain ⟨g1, _, g3⟩ := sd_app.1 (sd_app.1 h4).1
    rcases List.mem_append.1 ha' with ha' | ha'
    · exact le_tr (g3 a' ha' y (by simp)) h7
    · obtain rfl : a' = y := by simpa using ha'
      exact h7
  · rw [e, two_set hl]
    refine ⟨A', x, y :: B, R, by simp, hk, by simp; omega, h3, by simpa using h4, fun b hb => ?_, ?_⟩
    · rcases List.mem_cons.1 hb with rfl | hb
      · exact hxy
      · exact h5 b hb
    · refine h6.trans ?_
      have : Stb ke ([y] ++ [x]) ([x] ++ [y]) := stb_flip fun a ha b hb => by
        obtain rfl : a = y := by simpa using ha
        obtain rfl : b = x := by simpa using hb
        exact ne_of_lt hxy
      have := (Stb.refl (ke := ke) A').app (this.app (Stb.refl (B ++ R)))
      simpa using this
/-! ### one moved past others -/
/-- u has passed the first of VA: it stands at place k -/
def MvR (P VA T L : List α) (u : α) (k : Nat) : Prop := ∃ C D, VA = C ++ D ∧ L = P ++ (C ++ (u :: (D ++ T))) ∧ P.length + C.length = k
theorem mvR_step {u : α} (h : MvR P V T L u k) (hk : k < P.length + V.length) : ∃ d, L[k]? = some u ∧ L[k + 1]? = some d ∧ MvR P V T ((L.set k d).set (k + 1) u) u (k + 1) := by
  obtain ⟨C, D, rfl, rfl, h3⟩ := h
  cases D with
  | nil => simp at hk; omega
  | cons d D =>
    have e : P ++ (C ++ (u :: (d :: D ++ T))) = (P ++ C) ++ (u :: (d :: (D ++ T))) := by simp
    have hl : (P ++ C).length = k := by rw [List.length_append]; omega
    rw [e]
    refine ⟨d, (two_at hl).2, (two_at hl).1, C ++ [d], D, by simp, ?_, by simp; omega⟩
    rw [two_set' hl]
    simp
theorem mvR_end {u : α} (h : MvR P V T L u k) (hk : P.length + V.length ≤ k) : L = P ++ (V ++ (u :: T)) := by
  obtain ⟨C, D, rfl, rfl, h3⟩ := h
  obtain rfl : D = [] := List.eq_nil_of_length_eq_zero (by simp at hk; omega)
  simp
theorem mvL_step {u : α} (h : MvR P V T L u (k + 1)) (hk : P.length < k + 1) : ∃ d, L[k + 1]? = some u ∧ L[k]? = some d ∧ MvR P V T ((L.set (k + 1) d).set k u) u k := by
  obtain ⟨C, D, rfl, rfl, h3⟩ := h
  have hne : C ≠ [] := by rintro rfl; simp at h3; omega
  obtain ⟨C', d, rfl⟩ : ∃ C' d, C = C' ++ [d] := ⟨C.dropLast, C.getLast hne, (List.dropLast_concat_getLast hne).symm⟩
  have e : P ++ (C' ++ [d] ++ (u :: (D ++ T))) = (P ++ C') ++ (d :: (u :: (D ++ T))) := by simp
  have hl : (P ++ C').length = k := by simp at h3 ⊢; omega
  rw [e]
  refine ⟨d, (two_at hl).1, (two_at hl).2, C', d :: D, by simp, ?_, by simp at hl; omega⟩
  rw [two_set hl]
  simp
theorem mvL_end {u : α} (h : MvR P V T L u k) (hk : k ≤ P.length) : L = P ++ (u :: (V ++ T)) := by
  obtain ⟨C, D, rfl, rfl, h3⟩ := h
  obtain rfl : C = [] := List.eq_nil_of_length_eq_zero (by omega)
  simp
/-! ### two ranges swapped -/
def SwR (P X M Y S L : List α) (i : Nat) : Prop := ∃ X1 X2 Y1 Y2, X = X1 ++ X2 ∧ Y = Y1 ++ Y2 ∧ X1.length = i ∧ Y1.length = i ∧ L = P ++ (Y1 ++ (X2 ++ (M ++ (X1 ++ (Y2 ++ S)))))
theorem swR_start : SwR P X M Y S (P ++ (X ++ (M ++ (Y ++ S)))) 0 := ⟨[], X, [], Y, rfl, rfl, rfl, rfl, by simp⟩
theorem far_at {x y : α} (hi : A.length = i) (hj : i + 1 + B.length = j) : (A ++ (x :: (B ++ (y :: C))))[i]? = some x ∧ (A ++ (x :: (B ++ (y :: C))))[j]? = some y := by
  subst hi hj
  refine ⟨by simp, ?_⟩
  rw [List.getElem?_append_right (by omega)]
  rw [show A.length + 1 + B.length - A.length = B.length + 1 by omega]
  simp
theorem far_set {x y : α} (hi : A.length = i) (hj : i + 1 + B.length = j) : ((A ++ (x :: (B ++ (y :: C)))).set i y).set j x = A ++ (y :: (B ++ (x :: C))) := by
  subst hi hj
  rw [List.set_append_right _ _ (Nat.le_refl _), Nat.sub_self, List.set_cons_zero, List.set_append_right _ _ (by omega)]
  rw [show A.length + 1 + B.length - A.length = B.length + 1 by omega, List.set_cons_succ, List.set_append_right _ _ (Nat.le_refl _), Nat.sub_self, List.set_cons_zero]
theorem swR_step (h : SwR P X M Y S L i) (hi : i < X.length) (hi2 : i < Y.length) (ha : P.length = a) (hb : a + X.length + M.length = b) : ∃ x y, L[a + i]? = some x ∧ L[b + i]? = some y ∧ SwR P X M Y S ((L.set (a + i) y).set (b + i) x) (i + 1) := by
  obtain ⟨X1, X2, Y1, Y2, rfl, rfl, h1, h2, rfl⟩ := h
  cases X2 with
  | nil => simp at hi; omega
  | cons x X2 =>
    cases Y2 with
    | nil => simp at hi2; omega
    | cons y Y2 =>
      have e : P ++ (Y1 ++ (x :: X2 ++ (M ++ (X1 ++ (y :: Y2 ++ S))))) = (P ++ Y1) ++ (x :: ((X2 ++ (M ++ X1)) ++ (y :: (Y2 ++ S)))) := by simp
      have hl : (P ++ Y1).length = a + i := by rw [List.length_append]; omega
      have hj : a + i + 1 + (X2 ++ (M ++ X1)).length = b + i := by simp at hb ⊢; omega
      rw [e]
      refine ⟨x, y, (far_at hl hj).1, (far_at hl hj).2, X1 ++ [x], X2, Y1 ++ [y], Y2, by simp, by simp, by simp; omega, by simp; omega, ?_⟩
      rw [far_set hl hj]
      simp
theorem swR_end (h : SwR P X M Y S L i) (hi : X.length = i) (hi2 : Y.length = i) : L = P ++ (Y ++ (M ++ (X ++ S))) := by
  obtain ⟨X1, X2, Y1, Y2, rfl, rfl, h1, h2, rfl⟩ := h
  obtain rfl : X2 = [] := List.eq_nil_of_length_eq_zero (by simp at hi; omega)
  obtain rfl : Y2 = [] := List.eq_nil_of_length_eq_zero (by simp at hi2; omega)
  simp
/-! ### two neighbours' ranges exchanged -/
def Rot (T L : List α) (i j m : Nat) : Prop := ∃ P U V S, L = P ++ (U ++ (V ++ S)) ∧ T = P ++ (V ++ (U ++ S)) ∧ U.length = i ∧ V.length = j ∧ P.length + i = m
theorem rot_gt (h : Rot T L i j m) (hij : j < i) : ∃ P X M Y S, L = P ++ (X ++ (M ++ (Y ++ S))) ∧ P.length = m - i ∧ m - i + X.length + M.length = m ∧ X.length = j ∧ Y.length = j ∧ Rot T (P ++ (Y ++ (M ++ (X ++ S)))) (i - j) j m := by
  obtain ⟨P, U, V, S, rfl, rfl, h1, h2, h3⟩ := h
  refine ⟨P, U.take j, U.drop j, V, S, ?_, by omega, by simp; omega, by simp; omega, h2, P ++ V, U.drop j, U.take j, S, by simp, ?_, by simp; omega, by simp; omega, by simp; omega⟩
  · rw [← List.append_assoc (U.take j), List.take_append_drop]
  · rw [← List.append_assoc (U.take j), List.take_append_drop]
    simp
theorem rot_lt (h : Rot T L i j m) (hij : i < j) : ∃ P X M Y S, L = P ++ (X ++ (M ++ (Y ++ S))) ∧ P.length = m - i ∧ m - i + X.length + M.length = m + j - i ∧ X.length = i ∧ Y.length = i ∧ Rot T (P ++ (Y ++ (M ++ (X ++ S)))) i (j - i) m := by
  obtain ⟨P, U, V, S, rfl, rfl, h1, h2, h3⟩ := h
  refine ⟨P, U, V.take (j - i), V.drop (j - i), S, ?_, by omega, by simp; omega, h1, by simp; omega, P, V.drop (j - i), V.take (j - i), U ++ S, rfl, ?_, by simp; omega, by simp; omega, h3⟩
  · rw [← List.append_assoc (V.take (j - i)), List.take_append_drop]
  · rw [← List.append_assoc (V.take (j - i)), List.take_append_drop]
theorem rot_eq (h : Rot T L i i m) : ∃ P X Y S, L = P ++ (X ++ ([] ++ (Y ++ S))) ∧ P.length = m - i ∧ m - i + X.length + ([] : List α).length = m ∧ X.length = i ∧ Y.length = i ∧ P ++ (Y ++ ([] ++ (X ++ S))) = T := by
  obtain ⟨P, U, V, S, rfl, rfl, h1, h2, h3⟩ := h
  exact ⟨P, U, V, S, by simp, by omega, by simp; omega, h1, h2, by simp⟩
/-! ### two in order, merged -/
theorem at_first (ha : P.length = a) {c : Nat} (h1 : a ≤ c) (h2 : c < a + U.length) : (P ++ (U ++ T))[c]? = U[c - a]? := by
  rw [List.getElem?_append_right (by omega), ha, List.getElem?_append_left (by omega)]
theorem at_second (ha : P.length = a) (hm : a + U.length = m) {c : Nat} (h1 : m ≤ c) (h2 : c < m + V.length) : (P ++ (U ++ (V ++ S)))[c]? = V[c - m]? := by
  rw [List.getElem?_append_right (by omega), List.getElem?_append_right (by omega), List.getElem?_append_left (by omega)]
  congr 1
  omega
theorem take_last {U : List α} {s : Nat} {u : α} (hs : s ≤ U.length) (h : (U.take s)[(U.take s).length - 1]? = some u) : 0 < s ∧ U[s - 1]? = some u := by
  have h1 := (List.getElem?_eq_some_iff.1 h).1
  rw [List.length_take] at h h1
  have e : min s U.length = s := by omega
  rw [e] at h h1
  refine ⟨by omega, ?_⟩
  rw [List.getElem?_take_of_lt (by omega)] at h
  exact h
theorem drop_first {U : List α} {s : Nat} {u : α} (h : (U.drop s)[0]? = some u) : s < U.length ∧ U[s]? = some u := by
  rw [List.getElem?_drop, Nat.add_zero] at h
  exact ⟨(List.getElem?_eq_some_iff.1 h).1, h⟩
theorem Sd.takes (h : Sd ke U) (s : Nat) : Sd ke (U.take s) := List.Pairwise.sublist (List.take_sublist _ _) h
theorem Sd.drops (h : Sd ke U) (s : Nat) : Sd ke (U.drop s) := List.Pairwise.sublist (List.drop_sublist _ _) h
/-- where both are parted so that what goes on is in order -/
theorem sym_split {mid p lo hi s : Nat} (ha : P.length = a) (hm : a + U.length = m) (hb : m + V.length = b) (hmid : mid = (a + b) / 2) (hu : 1 ≤ U.length) (hv : 1 ≤ V.length) (hp : p = mid + m - 1)
    (hlo : (mid < m ∧ lo = mid + m - b ∧ hi = mid) ∨ (m ≤ mid ∧ lo = a ∧ hi = m)) (hs1 : lo ≤ s) (hs2 : s ≤ hi)
    (h1 : s = lo ∨ ∃ x y, (P ++ (U ++ (V ++ S)))[s - 1]? = some x ∧ (P ++ (U ++ (V ++ S)))[p - (s - 1)]? = some y ∧ ¬ cmpB (ke y) (ke x) < 0)
    (h2 : s = hi ∨ ∃ x y, (P ++ (U ++ (V ++ S)))[s]? = some x ∧ (P ++ (U ++ (V ++ S)))[p - s]? = some y ∧ cmpB (ke y) (ke x) < 0)
    (hU : Sd ke U) (hV : Sd ke V) : ∃ U1 U2 V1 V2, U = U1 ++ U2 ∧ V = V1 ++ V2 ∧ a + U1.length = s ∧ m + V1.length = mid + m - s ∧ (∀ v, v ∈ V1 → ∀ u, u ∈ U2 → cmpB (ke v) (ke u) < 0) ∧ (∀ u, u ∈ U1 → ∀ v, v ∈ V2 → cmpB (ke u) (ke v) ≤ 0) := by
  have H1 := Lib.hid h1
  have H2 := Lib.hid h2
  clear h1 h2
  have hlo' : a ≤ lo := by omega
  have hhi' : hi ≤ m := by omega
  refine ⟨U.take (s - a), U.drop (s - a), V.take (mid - s), V.drop (mid - s), (List.take_append_drop _ _).symm, (List.take_append_drop _ _).symm, by rw [List.length_take]; omega, by rw [List.length_take]; omega, ?_, ?_⟩
  · refine all_lt (hV.takes _) (hU.drops _) fun v u hv' hu' => ?_
    obtain ⟨g1, g2⟩ := take_last (by omega) hv'
    obtain ⟨g3, g4⟩ := drop_first hu'
    have hs : s ≠ hi := by omega
    obtain ⟨x, y, hx, hy, hc⟩ := H2.out.resolve_left hs
    rw [at_first ha (by omega) (by omega), g4] at hx
    rw [at_second ha hm (by omega) (by omega), show p - s - m = mid - s - 1 by omega, g2] at hy
    cases hx
    cases hy
    exact hc
  · refine all_le (hU.takes _) (hV.drops _) fun u v hu' hv' => ?_
    obtain ⟨g1, g2⟩ := take_last (by omega) hu'
    obtain ⟨g3, g4⟩ := drop_first hv'
    have hs : s ≠ lo := by omega
    obtain ⟨x, y, hx, hy, hc⟩ := H1.out.resolve_left hs
    rw [at_first ha (by omega) (by omega), show s - 1 - a = s - a - 1 by omega, g2] at hx
    rw [at_second ha hm (by omega) (by omega), show p - (s - 1) - m = mid - s by omega, g4] at hy
    cases hx
    cases hy
    exact ge_of hc
theorem sym_done {U1 U2 V1 V2 X1 X2 : List α} (hU : Sd ke (U1 ++ U2)) (hV : Sd ke (V1 ++ V2)) (h1 : ∀ v, v ∈ V1 → ∀ u, u ∈ U2 → cmpB (ke v) (ke u) < 0) (h2 : ∀ u, u ∈ U1 → ∀ v, v ∈ V2 → cmpB (ke u) (ke v) ≤ 0)
    (s1 : Sd ke X1) (t1 : Stb ke (U1 ++ V1) X1) (s2 : Sd ke X2) (t2 : Stb ke (U2 ++ V2) X2) : Sd ke (X1 ++ X2) ∧ Stb ke ((U1 ++ U2) ++ (V1 ++ V2)) (X1 ++ X2) := by
  obtain ⟨_, _, hU3⟩ := sd_app.1 hU
  obtain ⟨_, _, hV3⟩ := sd_app.1 hV
  refine ⟨sd_app.2 ⟨s1, s2, fun x hx y hy => ?_⟩, ?_⟩
  · rcases List.mem_append.1 (t1.mem.1 hx) with hx | hx <;> rcases List.mem_append.1 (t2.mem.1 hy) with hy | hy
    · exact hU3 x hx y hy
    · exact h2 x hx y hy
    · exact Int.le_of_lt (h1 x hx y hy)
    · exact hV3 x hx y hy
  · have h3 : Stb ke (U2 ++ V1) (V1 ++ U2) := stb_flip fun u hu v hv => ne_of_lt (h1 v hv u hu)
    have h4 := (Stb.refl (ke := ke) U1).app (h3.app (Stb.refl V2))
    have h5 := t1.app t2
    refine Stb.trans ?_ h5
    simpa using h4
/-- a merge of which one side has none -/
theorem one_side {A B : List α} (hA : Sd ke A) (hB : Sd ke B) (h : A = [] ∨ B = []) : Sd ke (A ++ B) := by
  rcases h with rfl | rfl
  · simpa using hB
  · simpa using hA
theorem one_left {u : α} {s : Nat} (ha : P.length = a) (hm : a + 1 = m) (hb : m + V.length = b) (hs1 : m ≤ s) (hs2 : s ≤ b)
    (h1 : s = m ∨ ∃ x, (P ++ ([u] ++ (V ++ S)))[s - 1]? = some x ∧ cmpB (ke x) (ke u) < 0) (h2 : s = b ∨ ∃ x, (P ++ ([u] ++ (V ++ S)))[s]? = some x ∧ ¬ cmpB (ke x) (ke u) < 0) (hV : Sd ke V) :
    ∃ V1 V2, V = V1 ++ V2 ∧ m + V1.length = s ∧ Sd ke (V1 ++ (u :: V2)) ∧ Stb ke ([u] ++ V) (V1 ++ (u :: V2)) := by
  have H1 := Lib.hid h1
  have H2 := Lib.hid h2
  clear h1 h2
  have hlt : ∀ v, v ∈ V.take (s - m) → ∀ y, y ∈ [u] → cmpB (ke v) (ke y) < 0 := by
    refine all_lt (hV.takes _) (sd_few (by simp)) fun v y hv' hy' => ?_
    obtain ⟨g1, g2⟩ := take_last (by omega) hv'
    obtain rfl : y = u := by simpa using hy'.symm
    obtain ⟨x, hx, hc⟩ := H1.out.resolve_left (by omega)
    rw [at_second ha (by simp; omega) (by omega) (by omega), show s - 1 - m = s - m - 1 by omega, g2] at hx
    cases hx
    exact hc
  have hle : ∀ y, y ∈ [u] → ∀ v, v ∈ V.drop (s - m) → cmpB (ke y) (ke v) ≤ 0 := by
    refine all_le (sd_few (by simp)) (hV.drops _) fun y v hy' hv' => ?_
    obtain ⟨g3, g4⟩ := drop_first hv'
    obtain rfl : y = u := by simpa using hy'.symm
    obtain ⟨x, hx, hc⟩ := H2.out.resolve_left (by omega)
    rw [at_second ha (by simp; omega) (by omega) (by omega), g4] at hx
    cases hx
    exact ge_of hc
  refine ⟨V.take (s - m), V.drop (s - m), (List.take_append_drop _ _).symm, by rw [List.length_take]; omega, ?_, ?_⟩
  · have hV' := hV
    rw [← List.take_append_drop (s - m) V] at hV'
    obtain ⟨k1, k2, k3⟩ := sd_app.1 hV'
    refine sd_app.2 ⟨k1, sd_cons.2 ⟨fun v hv => hle u (by simp) v hv, k2⟩, fun x hx y hy => ?_⟩
    rcases List.mem_cons.1 hy with rfl | hy
    · exact Int.le_of_lt (hlt x hx _ (by simp))
    · exact k3 x hx y hy
  · have h3 : Stb ke ([u] ++ V.take (s - m)) (V.take (s - m) ++ [u]) := stb_flip fun y hy v hv => ne_of_lt (hlt v hv y hy)
    have h4 := h3.app (Stb.refl (ke := ke) (V.drop (s - m)))
    rw [List.append_assoc, List.take_append_drop, List.append_assoc] at h4
    exact h4
theorem one_right {v : α} {s : Nat} (ha : P.length = a) (hm : a + U.length = m) (hs1 : a ≤ s) (hs2 : s ≤ m)
    (h1 : s = a ∨ ∃ x, (P ++ (U ++ ([v] ++ S)))[s - 1]? = some x ∧ ¬ cmpB (ke v) (ke x) < 0) (h2 : s = m ∨ ∃ x, (P ++ (U ++ ([v] ++ S)))[s]? = some x ∧ cmpB (ke v) (ke x) < 0) (hU : Sd ke U) :
    ∃ U1 U2, U = U1 ++ U2 ∧ a + U1.length = s ∧ Sd ke (U1 ++ (v :: U2)) ∧ Stb ke (U ++ [v]) (U1 ++ (v :: U2)) := by
  have H1 := Lib.hid h1
  have H2 := Lib.hid h2
  clear h1 h2
  have hle : ∀ u, u ∈ U.take (s - a) → ∀ y, y ∈ [v] → cmpB (ke u) (ke y) ≤ 0 := by
    refine all_le (hU.takes _) (sd_few (by simp)) fun u y hu' hy' => ?_
    obtain ⟨g1, g2⟩ := take_last (by omega) hu'
    obtain rfl : y = v := by simpa using hy'.symm
    obtain ⟨x, hx, hc⟩ := H1.out.resolve_left (by omega)
    rw [at_first ha (by omega) (by omega), show s - 1 - a = s - a - 1 by omega, g2] at hx
    cases hx
    exact ge_of hc
  have hlt : ∀ y, y ∈ [v] → ∀ u, u ∈ U.drop (s - a) → cmpB (ke y) (ke u) < 0 := by
    refine all_lt (sd_few (by simp)) (hU.drops _) fun y u hy' hu' => ?_
    obtain ⟨g3, g4⟩ := drop_first hu'
    obtain rfl : y = v := by simpa using hy'.symm
    obtain ⟨x, hx, hc⟩ := H2.out.resolve_left (by omega)
    rw [at_first ha (by omega) (by omega), g4] at hx
    cases hx
    exact hc
  refine ⟨U.take (s - a), U.drop (s - a), (List.take_append_drop _ _).symm, by rw [List.length_take]; omega, ?_, ?_⟩
  · have hU' := hU
    rw [← List.take_append_drop (s - a) U] at hU'
    exact ins_sd hU' (fun b hb => hlt v (by simp) b hb) fun x hx => hle x hx v (by simp)
  · have h3 : Stb ke (U.drop (s - a) ++ [v]) ([v] ++ U.drop (s - a)) := stb_flip fun u hu y hy => ne_of_lt (hlt y hy u hu)
    have h4 := (Stb.refl (ke := ke) (U.take (s - a))).app h3
    rw [← List.append_assoc, List.take_append_drop] at h4
    exact h4
/-! ### blocks, each in order -/
section
variable (ke)
/-- k blocks of s at most -/
def Bk (s : Nat) : Nat → List α → Prop
  | 0, L => L = []
  | k + 1, L => Sd ke (L.take s) ∧ Bk s k (L.drop s)
end
variable {s : Nat}
theorem Bk.zero (h : Bk ke s 0 L) : L = [] := h
theorem bk_app : ∀ {k j : Nat} {D R : List α}, Bk ke s k D → D.length = s * k → Bk ke s j R → Bk ke s (k + j) (D ++ R)
  | 0, j, D, R, h, _, hR => by
    obtain rfl : D = [] := h
    rw [Nat.zero_add]
    exact hR
  | k + 1, j, D, R, h, hD, hR => by
    rw [Nat.mul_add, Nat.mul_one] at hD
    have hs : s ≤ D.length := by omega
    rw [show k + 1 + j = k + j + 1 by omega]
    refine ⟨?_, ?_⟩
    · rw [List.take_append_of_le_length hs]
      exact h.1
    · rw [List.drop_append_of_le_length hs]
      exact bk_app h.2 (by rw [List.length_drop]; omega) hR
theorem bk_one (h : Sd ke X) (hs : X.length ≤ s) : Bk ke s 1 X := ⟨by rw [List.take_of_length_le hs]; exact h, List.drop_eq_nil_of_le hs⟩
theorem Bk.snoc {D : List α} (h : Bk ke s k D) (hD : D.length = s * k) (hX : Sd ke X) (hs : X.length ≤ s) : Bk ke s (k + 1) (D ++ X) := bk_app h hD (bk_one hX hs)
theorem Bk.first (h : Bk ke s k L) : Sd ke (L.take s) := by
  cases k with
  | zero =>
    obtain rfl : L = [] := h
    simpa using sd_nil
  | succ k => exact h.1
theorem Bk.rest (h : Bk ke s k L) : Bk ke s (k - 1) (L.drop s) := by
  cases k with
  | zero =>
    obtain rfl : L = [] := h
    simp [Bk]
  | succ k => exact h.2
theorem Bk.all (h : Bk ke s k L) (hs : L.length ≤ s) : Sd ke L := by
  have := h.first
  rwa [List.take_of_length_le hs] at this
end
end St
end Go.Proofs.Ytlabbmfiecbigaa
