/-
  The phases of a stable sort by blocks. No memory.
-/
import Derived.Test.YtoibkjggfkkdhaaSortP
namespace Go.Proofs.Ytoibkjggfkkdhaa
namespace St
open Go.RowKit Lx Bu
section
variable {α : Type} (ke : α → ByteArray)
def Ph1 (L0 L : List α) (a : Nat) : Prop := ∃ k D R, L = D ++ R ∧ D.length = a ∧ a = 20 * k ∧ Bk ke 20 k D ∧ Stb ke L0 L
def Ph2 (L0 L : List α) (s : Nat) : Prop := ∃ k, Bk ke s k L ∧ Stb ke L0 L
def Ph3 (L0 L : List α) (s a : Nat) : Prop := ∃ k j D R, L = D ++ R ∧ D.length = a ∧ a = (s + s) * k ∧ Bk ke (s + s) k D ∧ Bk ke s j R ∧ Stb ke L0 L
variable {ke} {L0 L : List α} {a s : Nat}
theorem ph1_start : Ph1 ke L0 L0 0 := ⟨0, [], L0, rfl, rfl, rfl, rfl, Stb.refl _⟩
theorem ph1_step (h : Ph1 ke L0 L a) (hl : a + 20 ≤ L.length) : ∃ P U S, L = P ++ (U ++ S) ∧ P.length = a ∧ U.length = 20 ∧ ∀ X, Sd ke X → Stb ke U X → Ph1 ke L0 (P ++ (X ++ S)) (a + 20) := by
  obtain ⟨k, D, R, rfl, h1, h2, h3, h4⟩ := h
  rw [List.length_append] at hl
  have hU : (R.take 20).length = 20 := by rw [List.length_take]; omega
  refine ⟨D, R.take 20, R.drop 20, by rw [List.take_append_drop], h1, hU, fun X hX hs => ?_⟩
  have hx : X.length = 20 := hs.len.trans hU
  refine ⟨k + 1, D ++ X, R.drop 20, by simp, by rw [List.length_append]; omega, by omega, h3.snoc (by omega) hX (by omega), h4.trans ?_⟩
  have h5 := (Stb.refl (ke := ke) D).app (hs.app (Stb.refl (R.drop 20)))
  rw [List.take_append_drop] at h5
  exact h5
theorem ph1_end (h : Ph1 ke L0 L a) (hl : L.length < a + 20) : ∃ P U, L = P ++ (U ++ []) ∧ P.length = a ∧ a + U.length = L.length ∧ ∀ X, Sd ke X → Stb ke U X → Ph2 ke L0 (P ++ (X ++ [])) 20 := by
  obtain ⟨k, D, R, rfl, h1, h2, h3, h4⟩ := h
  rw [List.length_append] at hl
  refine ⟨D, R, by simp, h1, by rw [List.length_append]; omega, fun X hX hs => ?_⟩
  have hx := hs.len
  rw [List.append_nil]
  exact ⟨k + 1, h3.snoc (by omega) hX (by omega), h4.trans ((Stb.refl D).app hs)⟩
theorem ph3_start (h : Ph2 ke L0 L s) : Ph3 ke L0 L s 0 := by
  obtain ⟨k, h1, h2⟩ := h
  exact ⟨0, k, [], L, rfl, rfl, rfl, rfl, h1, h2⟩
theorem ph3_le (h : Ph3 ke L0 L s a) : a ≤ L.length := by
  obtain ⟨k, j, D, R, rfl, h1, _⟩ := h
  rw [List.length_append]
  omega
theorem ph3_step (h : Ph3 ke L0 L s a) (hl : a + (s + s) ≤ L.length) : ∃ P U V S, L = P ++ (U ++ (V ++ S)) ∧ P.length = a ∧ U.length = s ∧ V.length = s ∧ Sd ke U ∧ Sd ke V ∧ ∀ X, Sd ke X → Stb ke (U ++ V) X → Ph3 ke L0 (P ++ (X ++ S)) s (a + (s + s)) := by
  obtain ⟨k, j, D, R, rfl, h1, h2, h3, h4, h5⟩ := h
  rw [List.length_append] at hl
  have hU : (R.take s).length = s := by rw [List.length_take]; omega
  have hV : ((R.drop s).take s).length = s := by rw [List.length_take, List.length_drop]; omega
  refine ⟨D, R.take s, (R.drop s).take s, (R.drop s).drop s, by rw [List.take_append_drop, List.take_append_drop], h1, hU, hV, h4.first, h4.rest.first, fun X hX hs => ?_⟩
  have hx : X.length = s + s := by
    rw [hs.len, List.length_append, hU, hV]
  refine ⟨k + 1, j - 1 - 1, D ++ X, (R.drop s).drop s, by simp, by rw [List.length_append]; omega, by rw [Nat.mul_add, Nat.mul_one]; omega, h3.snoc (by omega) hX (by omega), h4.rest.rest, h5.trans ?_⟩
  have h6 := (Stb.refl (ke := ke) D).app (hs.app (Stb.refl ((R.drop s).drop s)))
  rw [List.append_assoc, List.take_append_drop, List.take_append_drop] at h6
  exact h6
theorem ph3_last (h : Ph3 ke L0 L s a) (hl : L.length < a + (s + s)) (hm : a + s < L.length) : ∃ P U V, L = P ++ (U ++ (V ++ [])) ∧ P.length = a ∧ U.length = s ∧ a + s + V.length = L.length ∧ Sd ke U ∧ Sd ke V ∧ ∀ X, Sd ke X → Stb ke (U ++ V) X → Ph2 ke L0 (P ++ (X ++ [])) (s + s) := by
  obtain ⟨k, j, D, R, rfl, h1, h2, h3, h4, h5⟩ := h
  rw [List.length_append] at hl hm
  have hU : (R.take s).length = s := by rw [List.length_take]; omega
  have hV : (R.drop s).length = R.length - s := List.length_drop
  refine ⟨D, R.take s, R.drop s, by rw [List.append_nil, List.take_append_drop], h1, hU, by rw [List.length_append]; omega, h4.first, h4.rest.all (by omega), fun X hX hs => ?_⟩
  have hx := hs.len
  rw [List.length_append, hU, hV] at hx
  rw [List.append_nil]
  refine ⟨k + 1, h3.snoc (by omega) hX (by omega), h5.trans ?_⟩
  have h6 := (Stb.refl (ke := ke) D).app hs
  rw [List.take_append_drop] at h6
  exact h6
theorem ph3_none (h : Ph3 ke L0 L s a) (hl : L.length ≤ a + s) : Ph2 ke L0 L (s + s) := by
  obtain ⟨k, j, D, R, rfl, h1, h2, h3, h4, h5⟩ := h
  rw [List.length_append] at hl
  exact ⟨k + 1, h3.snoc (by omega) (h4.all (by omega)) (by omega), h5⟩
theorem ph2_end (h : Ph2 ke L0 L s) (hl : L.length ≤ s) : Sd ke L ∧ Stb ke L0 L := by
  obtain ⟨k, h1, h2⟩ := h
  exact ⟨h1.all hl, h2⟩
end
end St
end Go.Proofs.Ytoibkjggfkkdhaa
