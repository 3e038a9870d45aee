/-
  Lists of messages: which rise, what Put, Merge and Take make of them (no memory).
-/
import Derived.Test.YtmgmkfophdjidaaLexPlain
import Derived.Test.YtmgmkfophdjidaaMsgR2
namespace Go.Proofs.Ytmgmkfophdjidaa
namespace Bu
open Lx
theorem cmpB_trans {a b c : ByteArray} (h : cmpB a b < 0) (k : cmpB b c < 0) : cmpB a c < 0 := cmp_trans_lt h k
theorem cmpB_self (a : ByteArray) : cmpB a a = 0 := cmp_self _
theorem cmpB_neg (a b : ByteArray) : cmpB a b = -cmpB b a := cmp_neg _ _
theorem cmpB_zero {a b : ByteArray} (h : cmpB a b = 0) : a = b := by
  have := cmp_zero h
  cases a
  cases b
  simp only [ByteArray.mk.injEq] at *
  exact Array.ext' this
theorem cmpB_ne {a b : ByteArray} (h : cmpB a b < 0) : a ≠ b := fun e => by
  subst e
  rw [cmpB_self] at h
  omega
theorem cmpB_tri (a b : ByteArray) : cmpB a b < 0 ∨ a = b ∨ cmpB b a < 0 := by
  by_cases h : cmpB a b < 0
  · exact .inl h
  · by_cases k : cmpB b a < 0
    · exact .inr (.inr k)
    · have := cmpB_neg a b
      exact .inr (.inl (cmpB_zero (by omega)))
/-- keys rise, said of any two -/
abbrev Ri (L : List Mg) : Prop := L.Pairwise fun a b => cmpB a.1 b.1 < 0
theorem rise_iff {L : List Mg} : Rise L ↔ Ri L := by
  constructor
  · intro h
    induction L with
    | nil => exact .nil
    | cons x xs ih =>
      have ih := ih fun i a b ha hb => h (i + 1) a b (by simpa using ha) (by simpa using hb)
      refine List.pairwise_cons.2 ⟨?_, ih⟩
      cases xs with
      | nil => intro a ha; cases ha
      | cons y ys =>
        have h0 := h 0 x y rfl rfl
        intro a ha
        rcases List.mem_cons.1 ha with rfl | ha
        · exact h0
        · exact cmpB_trans h0 ((List.pairwise_cons.1 ih).1 a ha)
  · intro h i a b ha hb
    obtain ⟨h1, e1⟩ := List.getElem?_eq_some_iff.1 ha
    obtain ⟨h2, e2⟩ := List.getElem?_eq_some_iff.1 hb
    subst e1 e2
    exact List.pairwise_iff_getElem.1 h i (i + 1) h1 h2 (by omega)
theorem Ri.ne {L : List Mg} (h : Ri L) : L.Pairwise fun a b => a.1 ≠ b.1 := List.pairwise_iff_getElem.2 fun i j hi hj hij => cmpB_ne (List.pairwise_iff_getElem.1 h i j hi hj hij)
/-- two that rise and have the same messages are one -/
theorem Ri.ext : ∀ {L L' : List Mg}, Ri L → Ri L' → (∀ x, x ∈ L ↔ x ∈ L') → L = L'
  | [], [], _, _, _ => rfl
  | [], b :: bs, _, _, h => absurd ((h b).2 (by simp)) (by simp)
  | a :: us, [], _, _, h => absurd ((h a).1 (by simp)) (by simp)
  | a :: us, b :: bs, h, h', hm => by
    obtain ⟨h1, h2⟩ := List.pairwise_cons.1 h
    obtain ⟨k1, k2⟩ := List.pairwise_cons.1 h'
    have e : a = b := by
      rcases List.mem_cons.1 ((hm a).1 (by simp)) with e | ha
      · exact e
      · rcases List.mem_cons.1 ((hm b).2 (by simp)) with e | hb
        · exact e.symm
        · exact absurd (cmpB_self a.1) (by have := cmpB_trans (h1 b hb) (k1 a ha); omega)
    subst e
    rw [Ri.ext h2 k2 fun x => ⟨fun hx => ?_, fun hx => ?_⟩]
    · rcases List.mem_cons.1 ((hm x).1 (List.mem_cons_of_mem _ hx)) with rfl | hx'
      · exact absurd (h1 x hx) (by have := cmpB_self x.1; omega)
      · exact hx'
    · rcases List.mem_cons.1 ((hm x).2 (List.mem_cons_of_mem _ hx)) with rfl | hx'
      · exact absurd (k1 x hx) (by have := cmpB_self x.1; omega)
      · exact hx'
def insD : List Mg → Mg → List Mg
  | [], m => [m]
  | x :: xs, m => if cmpB m.1 x.1 ≤ 0 then m :: (x :: xs).filter (fun y => !decide (y.1 = m.1)) else x :: insD xs m
theorem fold_true (m : Mg) : ∀ (L O : List Mg), L.foldl (stepP m) (true, O) = (true, O ++ L.filter (fun y => !decide (y.1 = m.1)))
  | [], O => by simp
  | x :: xs, O => by
    rw [List.foldl_cons, List.filter_cons]
    by_cases h : x.1 = m.1 <;> simp [stepP, h, fold_true m xs]
theorem fold_false (m : Mg) : ∀ (L O : List Mg), (L.foldl (stepP m) (false, O)).2 ++ (if (L.foldl (stepP m) (false, O)).1 = true then [] else [m]) = O ++ insD L m
  | [], O => by simp [insD]
  | x :: xs, O => by
    rw [List.foldl_cons, insD]
    by_cases h : cmpB m.1 x.1 ≤ 0
    · rw [if_pos h]
      have e : stepP m (false, O) x = (true, O ++ [m] ++ if x.1 = m.1 then [] else [x]) := by simp [stepP, h]
      rw [e, fold_true, List.filter_cons]
      by_cases k : x.1 = m.1 <;> simp [k]
    · rw [if_neg h]
      have hne : x.1 ≠ m.1 := fun e => by rw [e, cmpB_self] at h; omega
      have e : stepP m (false, O) x = (false, O ++ [x]) := by simp [stepP, h, hne]
      rw [e, fold_false m xs]
      simp
theorem putD_eq (L : List Mg) (m : Mg) : putD L m = insD L m := by
  have := fold_false m L []
  rw [List.nil_append] at this
  exact this
theorem mem_insD {m x : Mg} : ∀ {L : List Mg}, x ∈ insD L m ↔ x = m ∨ (x ∈ L ∧ x.1 ≠ m.1)
  | [] => by simp [insD]
  | y :: ys => by
    rw [insD]
    split
    · simp
    · rename_i h
      have hne : y.1 ≠ m.1 := fun e => by rw [e, cmpB_self] at h; omega
      rw [List.mem_cons, List.mem_cons, mem_insD]
      constructor
      · rintro (rfl | h | h)
        · exact .inr ⟨.inl rfl, hne⟩
        · exact .inl h
        · exact .inr ⟨.inr h.1, h.2⟩
      · rintro (h | ⟨rfl | h, k⟩)
        · exact .inr (.inl h)
        · exact .inl rfl
        · exact .inr (.inr ⟨h, k⟩)
theorem mem_putD {L : List Mg} {m x : Mg} : x ∈ putD L m ↔ x = m ∨ (x ∈ L ∧ x.1 ≠ m.1) := by rw [putD_eq]; exact mem_insD
theorem ri_insD {m : Mg} : ∀ {L : List Mg}, Ri L → Ri (insD L m) ∧ (insD L m).length ≤ L.length + 1
  | [], _ => by simp [insD]
  | y :: ys, h => by
    obtain ⟨h1, h2⟩ := List.pairwise_cons.1 h
    rw [insD]
    split
    · rename_i hle
      constructor
      · refine List.pairwise_cons.2 ⟨fun a ha => ?_, h.filter _⟩
        obtain ⟨ha, hk⟩ := List.mem_filter.1 ha
        have hk : a.1 ≠ m.1 := by simpa using hk
        have hz : cmpB m.1 a.1 ≤ 0 := by
          rcases List.mem_cons.1 ha with rfl | ha
          · exact hle
          · exact cmp_trans_le hle (by have := h1 a ha; exact Int.le_of_lt this)
        rcases cmpB_tri m.1 a.1 with h | h | h
        · exact h
        · exact absurd h.symm hk
        · have := cmpB_neg m.1 a.1
          omega
      · have := List.length_filter_le (fun y => !decide (y.1 = m.1)) (y :: ys)
        simp only [List.length_cons] at this ⊢
        omega
    · rename_i hgt
      obtain ⟨k1, k2⟩ := ri_insD (m := m) h2
      refine ⟨List.pairwise_cons.2 ⟨fun a ha => ?_, k1⟩, by simp only [List.length_cons]; omega⟩
      rcases mem_insD.1 ha with rfl | ⟨ha, _⟩
      · have := cmpB_neg a.1 y.1
        omega
      · exact h1 a ha
theorem Ri.put {L : List Mg} (h : Ri L) (m : Mg) : Ri (putD L m) := by rw [putD_eq]; exact (ri_insD h).1
theorem Ri.put_len {L : List Mg} (h : Ri L) (m : Mg) : (putD L m).length ≤ L.length + 1 := by rw [putD_eq]; exact (ri_insD h).2
def mergeD (a b : List Mg) : List Mg := a.foldl putD b
theorem Ri.merge : ∀ {a b : List Mg}, Ri b → Ri (mergeD a b) ∧ (mergeD a b).length ≤ a.length + b.length
  | [], b, h => ⟨h, by simp [mergeD]⟩
  | x :: xs, b, h => by
    obtain ⟨h1, h2⟩ := Ri.merge (a := xs) (h.put x)
    have := h.put_len x
    refine ⟨h1, ?_⟩
    show (mergeD xs (putD b x)).length ≤ _
    simp only [List.length_cons]
    omega
theorem mem_mergeD {x : Mg} : ∀ {a b : List Mg}, Ri a → (x ∈ mergeD a b ↔ x ∈ a ∨ (x ∈ b ∧ ∀ y, y ∈ a → y.1 ≠ x.1))
  | [], b, _ => by simp [mergeD]
  | z :: zs, b, h => by
    obtain ⟨h1, h2⟩ := List.pairwise_cons.1 h
    show x ∈ mergeD zs (putD b z) ↔ _
    rw [mem_mergeD h2, mem_putD, List.mem_cons]
    constructor
    · rintro (h | ⟨rfl | ⟨hb, hn⟩, hz⟩)
      · exact .inl (.inr h)
      · exact .inl (.inl rfl)
      · exact .inr ⟨hb, fun y hy => by
          rcases List.mem_cons.1 hy with rfl | hy
          · exact fun e => hn e.symm
          · exact hz y hy⟩
    · rintro ((rfl | h) | ⟨hb, hn⟩)
      · exact .inr ⟨.inl rfl, fun y hy e => cmpB_ne (h1 y hy) e.symm⟩
      · exact .inl h
      · exact .inr ⟨.inr ⟨hb, fun e => hn z (by simp) e.symm⟩, fun y hy => hn y (by simp [hy])⟩
theorem mergeD_next {a b : List Mg} {k : Nat} {x : Mg} (hx : a[k]? = some x) : mergeD (a.take (k + 1)) b = putD (mergeD (a.take k) b) x := by
  have hk := (List.getElem?_eq_some_iff.1 hx).1
  have e : a[k] = x := (List.getElem?_eq_some_iff.1 hx).2
  unfold mergeD
  rw [List.take_succ_eq_append_getElem hk, List.foldl_append, e]
  rfl
/-- a step of Take -/
def stepT (p : Mg → Bool) (most : Int) (s : List Mg × List Mg) (x : Mg) : List Mg × List Mg :=
  if (p x && decide ((s.1.length : Int) < most)) = true then (s.1 ++ [x], s.2) else (s.1, s.2 ++ [x])
def takeD (p : Mg → Bool) (most : Int) (L : List Mg) : List Mg × List Mg := L.foldl (stepT p most) ([], [])
theorem takeD_next {p : Mg → Bool} {most : Int} {L : List Mg} {k : Nat} {x : Mg} (hx : L[k]? = some x) : takeD p most (L.take (k + 1)) = stepT p most (takeD p most (L.take k)) x := by
  have hk := (List.getElem?_eq_some_iff.1 hx).1
  have e : L[k] = x := (List.getElem?_eq_some_iff.1 hx).2
  unfold takeD
  rw [List.take_succ_eq_append_getElem hk, List.foldl_append, e]
  rfl
theorem foldT_len (p : Mg → Bool) (most : Int) : ∀ (L : List Mg) (s : List Mg × List Mg), (L.foldl (stepT p most) s).1.length + (L.foldl (stepT p most) s).2.length = s.1.length + s.2.length + L.length
  | [], s => rfl
  | x :: xs, s => by
    rw [List.foldl_cons, foldT_len p most xs]
    unfold stepT
    split <;> simp <;> omega
theorem foldT_out (p : Mg → Bool) (most : Int) : ∀ (L : List Mg) (s : List Mg × List Mg), (∀ x, x ∈ L → p x = false) → L.foldl (stepT p most) s = (s.1, s.2 ++ L)
  | [], s, _ => by simp
  | x :: xs, s, h => by
    have hx := h x (by simp)
    have e : stepT p most s x = (s.1, s.2 ++ [x]) := by simp [stepT, hx]
    rw [List.foldl_cons, e, foldT_out p most xs _ fun y hy => h y (by simp [hy])]
    simp
theorem foldT_in (p : Mg → Bool) (most : Int) : ∀ (L : List Mg) (s : List Mg × List Mg), (∀ x, x ∈ L → p x = true) → L.foldl (stepT p most) s = (s.1 ++ L.take (most - s.1.length).toNat, s.2 ++ L.drop (most - s.1.length).toNat)
  | [], s, _ => by simp
  | x :: xs, s, h => by
    have hx := h x (by simp)
    rw [List.foldl_cons, foldT_in p most xs _ fun y hy => h y (by simp [hy])]
    unfold stepT
    by_cases hl : (s.1.length : Int) < most
    · obtain ⟨j, hj⟩ : ∃ j, (most - (s.1.length : Int)).toNat = j + 1 := ⟨(most - (s.1.length : Int)).toNat - 1, by omega⟩
      have hj' : (most - ((s.1.length + 1 : Nat) : Int)).toNat = j := by omega
      simp only [hx, hl, decide_true, Bool.and_self, if_true, List.length_append, List.length_cons, List.length_nil, Nat.zero_add, hj, hj', List.take_succ_cons, List.drop_succ_cons, List.append_assoc, List.cons_append, List.nil_append]
    · have hj : (most - (s.1.length : Int)).toNat = 0 := by omega
      simp [hx, hl, hj]
/-- where those within lie together: what is taken, and what is left -/
theorem takeD_parts {p : Mg → Bool} {most : Int} {a b c : List Mg} (ha : ∀ x, x ∈ a → p x = false) (hb : ∀ x, x ∈ b → p x = true) (hc : ∀ x, x ∈ c → p x = false) :
    takeD p most (a ++ b ++ c) = (b.take most.toNat, a ++ b.drop most.toNat ++ c) := by
  unfold takeD
  rw [List.foldl_append, List.foldl_append, foldT_out p most a _ ha, foldT_in p most b _ hb, foldT_out p most c _ hc]
  simp
theorem foldT_perm (p : Mg → Bool) (most : Int) : ∀ (L : List Mg) (s : List Mg × List Mg), ((L.foldl (stepT p most) s).1 ++ (L.foldl (stepT p most) s).2).Perm (s.1 ++ s.2 ++ L)
  | [], s => by simp
  | x :: xs, s => by
    rw [List.foldl_cons]
    refine (foldT_perm p most xs _).trans ?_
    unfold stepT
    split
    · simp only [List.append_assoc]
      refine List.Perm.append_left _ ?_
      simp only [List.cons_append, List.nil_append]
      exact (List.perm_middle (a := x) (l₁ := s.2) (l₂ := xs)).symm
    · simp
theorem foldT_sub (p : Mg → Bool) (most : Int) : ∀ (L : List Mg) (s : List Mg × List Mg), ((L.foldl (stepT p most) s).1).Sublist (s.1 ++ L) ∧ ((L.foldl (stepT p most) s).2).Sublist (s.2 ++ L)
  | [], s => by simp
  | x :: xs, s => by
    rw [List.foldl_cons]
    obtain ⟨h1, h2⟩ := foldT_sub p most xs (stepT p most s x)
    revert h1 h2
    generalize xs.foldl (stepT p most) (stepT p most s x) = r
    unfold stepT
    split
    · intro h1 h2
      exact ⟨by simpa using h1, h2.trans (List.Sublist.append_left (List.sublist_cons_self _ _) _)⟩
    · intro h1 h2
      exact ⟨h1.trans (List.Sublist.append_left (List.sublist_cons_self _ _) _), by simpa using h2⟩
theorem Ri.taken {L : List Mg} (h : Ri L) (p : Mg → Bool) (most : Int) : Ri (takeD p most L).1 ∧ Ri (takeD p most L).2 := by
  obtain ⟨h1, h2⟩ := foldT_sub p most L ([], [])
  rw [List.nil_append] at h1 h2
  exact ⟨h.sublist h1, h.sublist h2⟩
/-- what is taken, and what is left, merged, is the buffer -/
theorem Ri.whole {L : List Mg} (h : Ri L) (p : Mg → Bool) (most : Int) : mergeD (takeD p most L).1 (takeD p most L).2 = L := by
  obtain ⟨h1, h2⟩ := h.taken p most
  have hp : ((takeD p most L).1 ++ (takeD p most L).2).Perm L := foldT_perm p most L ([], [])
  have hd : ((takeD p most L).1 ++ (takeD p most L).2).Pairwise fun a b => a.1 ≠ b.1 := (hp.pairwise_iff fun h e => h e.symm).2 h.ne
  refine Ri.ext (Ri.merge h2).1 h fun x => ?_
  rw [mem_mergeD h1, ← hp.mem_iff, List.mem_append]
  constructor
  · rintro (h | h)
    · exact .inl h
    · exact .inr h.1
  · rintro (h | h)
    · exact .inl h
    · exact .inr ⟨h, fun y hy => (List.pairwise_append.1 hd).2.2 y hy x h⟩
end Bu
end Go.Proofs.Ytmgmkfophdjidaa
