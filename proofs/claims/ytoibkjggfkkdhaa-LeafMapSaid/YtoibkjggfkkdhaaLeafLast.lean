/-
  Of messages the last of each key; pairs behind messages that rise. No memory.
-/
import Derived.Test.YtoibkjggfkkdhaaPairP
import Derived.Test.YtoibkjggfkkdhaaSortP
namespace Go.Proofs.Ytoibkjggfkkdhaa
namespace Lf
open Go.RowKit Lx Bu St
/-- the message at place i, if no other one of its key is next -/
def keepM (X : List Mg) (i : Nat) : List Mg :=
  match X[i]? with
  | none => []
  | some x => match X[i + 1]? with
    | none => [x]
    | some y => if y.1 = x.1 then [] else [x]
def lastM (X : List Mg) : Nat → List Mg
  | 0 => []
  | k + 1 => lastM X k ++ keepM X k
theorem keepM_end {X : List Mg} {i : Nat} {x : Mg} (hx : X[i]? = some x) (hn : X[i + 1]? = none) : keepM X i = [x] := by
  unfold keepM
  rw [hx]
  simp only
  rw [hn]
theorem keepM_yes {X : List Mg} {i : Nat} {x y : Mg} (hx : X[i]? = some x) (hy : X[i + 1]? = some y) (h : y.1 ≠ x.1) : keepM X i = [x] := by
  unfold keepM
  rw [hx]
  simp only
  rw [hy]
  simp only
  rw [if_neg h]
theorem keepM_no {X : List Mg} {i : Nat} {x y : Mg} (hx : X[i]? = some x) (hy : X[i + 1]? = some y) (h : y.1 = x.1) : keepM X i = [] := by
  unfold keepM
  rw [hx]
  simp only
  rw [hy]
  simp only
  rw [if_pos h]
theorem mem_keepM {X : List Mg} {i : Nat} {x : Mg} (h : x ∈ keepM X i) : X[i]? = some x ∧ ∀ y, X[i + 1]? = some y → y.1 ≠ x.1 := by
  cases hx : X[i]? with
  | none =>
    unfold keepM at h
    rw [hx] at h
    cases h
  | some z =>
    cases hy : X[i + 1]? with
    | none =>
      rw [keepM_end hx hy] at h
      obtain rfl : x = z := by simpa using h
      exact ⟨rfl, fun y e => by cases e⟩
    | some y =>
      by_cases he : y.1 = z.1
      · rw [keepM_no hx hy he] at h
        cases h
      · rw [keepM_yes hx hy he] at h
        obtain rfl : x = z := by simpa using h
        exact ⟨rfl, fun y' e => by cases e; exact he⟩
theorem mem_lastM {X : List Mg} {k : Nat} {x : Mg} (h : x ∈ lastM X k) : ∃ i, i < k ∧ X[i]? = some x ∧ ∀ y, X[i + 1]? = some y → y.1 ≠ x.1 := by
  induction k with
  | zero => cases h
  | succ k ih =>
    rcases List.mem_append.1 h with h | h
    · obtain ⟨i, hi, h1⟩ := ih h
      exact ⟨i, by omega, h1⟩
    · exact ⟨k, by omega, mem_keepM h⟩
theorem keepM_len (X : List Mg) (i : Nat) : (keepM X i).length ≤ 1 := by
  unfold keepM
  split
  · simp
  · split
    · simp
    · split <;> simp
theorem lastM_len (X : List Mg) (k : Nat) : (lastM X k).length ≤ k := by
  induction k with
  | zero => exact Nat.le_refl _
  | succ k ih =>
    have := keepM_len X k
    show (lastM X k ++ keepM X k).length ≤ _
    rw [List.length_append]
    omega
theorem keepM_pw (X : List Mg) (i : Nat) : (keepM X i).Pairwise fun a b => cmpB a.1 b.1 < 0 := by
  have h := keepM_len X i
  generalize keepM X i = T at *
  match T, h with
  | [], _ => exact List.Pairwise.nil
  | [x], _ => exact List.pairwise_singleton _ _
theorem lastM_rise {X : List Mg} (hs : Sd (fun m : Mg => m.1) X) (k : Nat) : (lastM X k).Pairwise fun a b => cmpB a.1 b.1 < 0 := by
  induction k with
  | zero => exact List.Pairwise.nil
  | succ k ih =>
    refine List.pairwise_append.2 ⟨ih, keepM_pw X k, fun x hx y hy => ?_⟩
    obtain ⟨i, hi, h1, h2⟩ := mem_lastM hx
    obtain ⟨h3, _⟩ := mem_keepM hy
    have hk := (List.getElem?_eq_some_iff.1 h3).1
    have hz : X[i + 1]? = some (X[i + 1]'(by omega)) := List.getElem?_eq_getElem _
    generalize X[i + 1]'(by omega) = z at hz
    have h4 : cmpB x.1 z.1 ≤ 0 := hs.at_ h1 hz (by omega)
    have h5 : cmpB z.1 y.1 ≤ 0 := hs.at_ hz h3 (by omega)
    have h6 : cmpB x.1 z.1 ≠ 0 := fun e => h2 z hz (cmpB_zero e).symm
    exact lt_le (by omega) h5
/-! ### what they say -/
theorem say_twice (key : ByteArray) (s : Option ByteArray) {x y : Mg} (h : y.1 = x.1) : sayP key (sayP key s x) y = sayP key s y := by
  unfold sayP
  rw [h]
  by_cases hk : x.1 = key <;> simp [hk]
theorem lastM_fold (X : List Mg) (key : ByteArray) (s : Option ByteArray) (k : Nat) : ∀ x, X[k]? = some x → (X.take (k + 1)).foldl (sayP key) s = sayP key ((lastM X k).foldl (sayP key) s) x := by
  induction k with
  | zero =>
    intro x hx
    have hk := (List.getElem?_eq_some_iff.1 hx).1
    have e : X[0] = x := (List.getElem?_eq_some_iff.1 hx).2
    rw [List.take_succ_eq_append_getElem hk, e]
    rfl
  | succ k ih =>
    intro y hy
    have hk := (List.getElem?_eq_some_iff.1 hy).1
    have e : X[k + 1] = y := (List.getElem?_eq_some_iff.1 hy).2
    have hx : X[k]? = some (X[k]'(by omega)) := List.getElem?_eq_getElem _
    generalize X[k]'(by omega) = x at hx
    rw [List.take_succ_eq_append_getElem hk, e, List.foldl_append, ih x hx]
    show sayP key _ y = sayP key ((lastM X k ++ keepM X k).foldl (sayP key) s) y
    by_cases h : y.1 = x.1
    · rw [keepM_no hx hy h, List.append_nil, say_twice key _ h]
    · rw [keepM_yes hx hy h, List.foldl_append]
      rfl
theorem fold_filter (key : ByteArray) (M : List Mg) : ∀ s, M.foldl (sayP key) s = (M.filter fun m => decide (m.1 = key)).foldl (sayP key) s := by
  induction M with
  | nil => intro s; rfl
  | cons m l ih =>
    intro s
    rw [List.foldl_cons, List.filter_cons, ih]
    by_cases h : m.1 = key
    · simp [h]
    · have : sayP key s m = s := by unfold sayP; rw [if_neg h]
      simp [h, this]
/-- T is, of the messages M, the last of each key, by rising keys -/
structure LastOf (M T : List Mg) : Prop where
  rise : T.Pairwise fun a b => cmpB a.1 b.1 < 0
  fold : ∀ key s, T.foldl (sayP key) s = M.foldl (sayP key) s
  len : T.length ≤ M.length
  mem : ∀ x, x ∈ T → x ∈ M
theorem lastOf {M X : List Mg} (hs : Sd (fun m : Mg => m.1) X) (ht : Stb (fun m : Mg => m.1) M X) : LastOf M (lastM X X.length) := by
  refine ⟨lastM_rise hs _, fun key s => ?_, by rw [← ht.len]; exact lastM_len _ _, fun x hx => ?_⟩
  · rw [fold_filter key M, ← ht.2 key, ← fold_filter key X]
    cases hn : X.length with
    | zero =>
      obtain rfl := List.eq_nil_of_length_eq_zero hn
      rfl
    | succ k =>
      have hx : X[k]? = some (X[k]'(by omega)) := List.getElem?_eq_getElem _
      generalize X[k]'(by omega) = x at hx
      have := lastM_fold X key s k x hx
      rw [List.take_of_length_le (by omega)] at this
      rw [this]
      show (lastM X k ++ keepM X k).foldl (sayP key) s = _
      rw [keepM_end hx (List.getElem?_eq_none (by omega)), List.foldl_append]
      rfl
  · obtain ⟨i, _, h1, _⟩ := mem_lastM hx
    exact ht.mem.1 (List.mem_of_getElem? h1)
theorem PRi.ext_get {L L' : List Pr} (h : PRi L) (h' : PRi L') (hg : ∀ key, getP L key = getP L' key) : L = L' :=
  PRi.ext h h' fun x => by rw [show x = (x.1, x.2) from rfl, ← h.get, ← h'.get, hg]
theorem LastOf.apply {M T : List Mg} {L : List Pr} (h : LastOf M T) (hr : PRi L) : applyP L T = applyP L M :=
  PRi.ext_get hr.apply hr.apply fun key => by rw [get_applyP key hr, get_applyP key hr, h.fold]
/-! ### pairs behind messages that rise -/
/-- what is done lies in C, what is left in l: behind the first k of T -/
structure Ap (L : List Pr) (T : List Mg) (k : Nat) (C l : List Pr) : Prop where
  eq : C ++ l = applyP L (T.take k)
  lo : ∀ x, x ∈ C → ∀ (j : Nat) (m : Mg), k ≤ j → T[j]? = some m → cmpB x.1 m.1 < 0
theorem ap_start (L : List Pr) (T : List Mg) : Ap L T 0 [] L := ⟨rfl, fun x hx => by cases hx⟩
theorem ap_end {L : List Pr} {T : List Mg} {C l : List Pr} {k : Nat} (h : Ap L T k C l) (hk : T.length ≤ k) : C ++ l = applyP L T := by
  rw [h.eq, List.take_of_length_le hk]
theorem cmpB_gt {a b : ByteArray} (h : 0 ≤ cmpB a b) (hn : a ≠ b) : cmpB b a < 0 := by
  have h1 := cmpB_neg a b
  have h2 : cmpB a b ≠ 0 := fun e => hn (cmpB_zero e)
  omega
theorem ap_step {L : List Pr} {T : List Mg} {C l : List Pr} {k p q : Nat} {m : Mg} (h : Ap L T k C l) (hr : PRi L) (hT : T.Pairwise fun a b => cmpB a.1 b.1 < 0) (hm : T[k]? = some m)
    (hlo : ∀ (i : Nat) (x : Pr), i < p → l[i]? = some x → cmpB x.1 m.1 < 0) (hhi : ∀ (i : Nat) (x : Pr), p ≤ i → l[i]? = some x → 0 ≤ cmpB x.1 m.1)
    (hq : q = p ∧ (¬ ∃ x, l[p]? = some x ∧ x.1 = m.1) ∨ q = p + 1 ∧ ∃ x, l[p]? = some x ∧ x.1 = m.1) :
    Ap L T (k + 1) (C ++ l.take p ++ if m.2.1 = true then [] else [(m.1, m.2.2)]) (l.drop q) := by
  have hD : PRi (C ++ l) := by rw [h.eq]; exact hr.apply
  obtain ⟨hC, hl, hCl⟩ := List.pairwise_append.1 hD
  have hk := (List.getElem?_eq_some_iff.1 hm).1
  have hpq : p ≤ q := by omega
  -- what is behind the key
  have hgt : ∀ x, x ∈ l.drop q → cmpB m.1 x.1 < 0 := fun x hx => by
    obtain ⟨i, hi⟩ := List.getElem?_of_mem hx
    rw [List.getElem?_drop] at hi
    have h1 := hhi (q + i) x (by omega) hi
    refine cmpB_gt h1 fun e => ?_
    rcases hq with ⟨rfl, hn⟩ | ⟨rfl, z, hz, hzk⟩
    · rcases Nat.eq_zero_or_pos i with rfl | hi0
      · exact hn ⟨x, by simpa using hi, e⟩
      · have hl1 := (List.getElem?_eq_some_iff.1 hi).1
        have h0 : l[q]? = some (l[q]'(by omega)) := List.getElem?_eq_getElem _
        generalize l[q]'(by omega) = y at h0
        have h2 := hhi q y (Nat.le_refl _) h0
        have h3 := PRi.at_ hl h0 hi (by omega)
        rw [e] at h3
        omega
    · have h3 := PRi.at_ hl hz hi (by omega)
      rw [hzk, e, cmpB_self] at h3
      omega
  have hlt : ∀ x, x ∈ l.take p → cmpB x.1 m.1 < 0 := fun x hx => by
    obtain ⟨i, hi⟩ := List.getElem?_of_mem hx
    have hip : i < p := by
      have := (List.getElem?_eq_some_iff.1 hi).1
      rw [List.length_take] at this
      omega
    rw [List.getElem?_take_of_lt hip] at hi
    exact hlo i x hip hi
  have hCm : ∀ x, x ∈ C → cmpB x.1 m.1 < 0 := fun x hx => h.lo x hx k m (Nat.le_refl _) hm
  have hK : ∀ x, x ∈ C ++ l.take p ++ (if m.2.1 = true then [] else [(m.1, m.2.2)]) → cmpB x.1 m.1 < 0 ∨ m.2.1 = false ∧ x = (m.1, m.2.2) := fun x hx => by
    rcases List.mem_append.1 hx with hx | hx
    · rcases List.mem_append.1 hx with hx | hx
      · exact .inl (hCm x hx)
      · exact .inl (hlt x hx)
    · split at hx
      · cases hx
      · rename_i hb
        exact .inr ⟨by simpa using hb, by simpa using hx⟩
  refine ⟨?_, fun x hx j m' hj hm' => ?_⟩
  · rw [applyP_next hm, ← h.eq]
    refine PRi.ext ?_ (hD.done m) fun x => ?_
    · refine List.pairwise_append.2 ⟨List.pairwise_append.2 ⟨?_, ?_, fun a ha b hb => ?_⟩, hl.sublist (List.drop_sublist _ _), fun a ha b hb => ?_⟩
      · exact List.pairwise_append.2 ⟨hC, hl.sublist (List.take_sublist _ _), fun a ha b hb => hCl a ha b (List.mem_of_mem_take hb)⟩
      · split
        · exact List.Pairwise.nil
        · exact List.pairwise_singleton _ _
      · split at hb
        · cases hb
        · obtain rfl : b = (m.1, m.2.2) := by simpa using hb
          rcases List.mem_append.1 ha with ha | ha
          · exact hCm a ha
          · exact hlt a ha
      · rcases hK a ha with h1 | ⟨_, rfl⟩
        · exact cmpB_trans h1 (hgt b hb)
        · exact hgt b hb
    · have hsplit : x ∈ C ++ l ∧ x.1 ≠ m.1 ↔ x ∈ C ∨ x ∈ l.take p ∨ x ∈ l.drop q := by
        constructor
        · rintro ⟨h1, h2⟩
          rcases List.mem_append.1 h1 with h1 | h1
          · exact .inl h1
          · obtain ⟨i, hi⟩ := List.getElem?_of_mem h1
            rcases Nat.lt_or_ge i p with hip | hip
            · exact .inr (.inl (List.mem_of_getElem? (i := i) (by rw [List.getElem?_take_of_lt hip]; exact hi)))
            · rcases Nat.lt_or_ge i q with hiq | hiq
              · exfalso
                rcases hq with ⟨rfl, _⟩ | ⟨rfl, z, hz, hzk⟩
                · omega
                · obtain rfl : i = p := by omega
                  rw [hi] at hz
                  cases hz
                  exact h2 hzk
              · exact .inr (.inr (List.mem_of_getElem? (i := i - q) (by rw [List.getElem?_drop, show q + (i - q) = i by omega]; exact hi)))
        · rintro (h1 | h1 | h1)
          · exact ⟨List.mem_append_left _ h1, cmpB_ne (hCm x h1)⟩
          · exact ⟨List.mem_append_right _ (List.mem_of_mem_take h1), cmpB_ne (hlt x h1)⟩
          · exact ⟨List.mem_append_right _ (List.mem_of_mem_drop h1), (cmpB_ne (hgt x h1)).symm⟩
      unfold doP
      by_cases hd : m.2.1 = true
      · rw [if_pos hd, if_pos hd, mem_cutP, hsplit, List.append_nil, List.mem_append, List.mem_append]
        exact ⟨fun h => h.elim (fun h => h.elim .inl fun h => .inr (.inl h)) fun h => .inr (.inr h), fun h => h.elim (fun h => .inl (.inl h)) fun h => h.elim (fun h => .inl (.inr h)) .inr⟩
      · rw [if_neg hd, if_neg hd, mem_putP, hsplit, List.mem_append, List.mem_append, List.mem_append, List.mem_singleton]
        constructor
        · rintro (((h1 | h1) | h1) | h1)
          · exact .inr (.inl h1)
          · exact .inr (.inr (.inl h1))
          · exact .inl h1
          · exact .inr (.inr (.inr h1))
        · rintro (h1 | h1 | h1 | h1)
          · exact .inl (.inr h1)
          · exact .inl (.inl (.inl h1))
          · exact .inl (.inl (.inr h1))
          · exact .inr h1
  · have h1 : cmpB m.1 m'.1 < 0 := by
      obtain ⟨h2, e1⟩ := List.getElem?_eq_some_iff.1 hm
      obtain ⟨h3, e2⟩ := List.getElem?_eq_some_iff.1 hm'
      subst e1 e2
      exact List.pairwise_iff_getElem.1 hT k j h2 h3 (by omega)
    rcases hK x hx with h2 | ⟨_, rfl⟩
    · exact cmpB_trans h2 h1
    · exact h1
end Lf
end Go.Proofs.Ytoibkjggfkkdhaa
