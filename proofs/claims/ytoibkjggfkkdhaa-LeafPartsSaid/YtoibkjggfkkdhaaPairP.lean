/-
  Lists of pairs: what Cut, Put, Apply and Part make of them (no memory).
-/
import Derived.Test.YtoibkjggfkkdhaaPairR
import Derived.Test.YtoibkjggfkkdhaaCutR
namespace Go.Proofs.Ytoibkjggfkkdhaa
namespace Lf
open Lx Bu
/-- keys rise, said of any two -/
abbrev PRi (L : List Pr) : Prop := L.Pairwise fun a b => cmpB a.1 b.1 < 0
theorem prise_iff {L : List Pr} : PRise L ↔ PRi L := by
  constructor
  · intro h
    induction L with
    | nil => exact .nil
    | cons x xs ih =>
      have ih := ih fun i a b ha hb => h (i + 1) a b (by simpa using ha) (by simpa using hb)
      refine List.pairwise_cons.2 ⟨?_, ih⟩
      cases xs with
      | nil => intro a ha; cases ha
      | cons y ys =>
        have h0 := h 0 x y rfl rfl
        intro a ha
        rcases List.mem_cons.1 ha with rfl | ha
        · exact h0
        · exact cmpB_trans h0 ((List.pairwise_cons.1 ih).1 a ha)
  · intro h i a b ha hb
    obtain ⟨h1, e1⟩ := List.getElem?_eq_some_iff.1 ha
    obtain ⟨h2, e2⟩ := List.getElem?_eq_some_iff.1 hb
    subst e1 e2
    exact List.pairwise_iff_getElem.1 h i (i + 1) h1 h2 (by omega)
theorem PRi.at_ {L : List Pr} (h : PRi L) {i j : Nat} {x y : Pr} (hx : L[i]? = some x) (hy : L[j]? = some y) (hij : i < j) : cmpB x.1 y.1 < 0 := by
  obtain ⟨h1, e1⟩ := List.getElem?_eq_some_iff.1 hx
  obtain ⟨h2, e2⟩ := List.getElem?_eq_some_iff.1 hy
  subst e1 e2
  exact List.pairwise_iff_getElem.1 h i j h1 h2 hij
/-- two that rise and have the same pairs are one -/
theorem PRi.ext : ∀ {L L' : List Pr}, PRi L → PRi L' → (∀ x, x ∈ L ↔ x ∈ L') → L = L'
  | [], [], _, _, _ => rfl
  | [], b :: bs, _, _, h => absurd ((h b).2 (by simp)) (by simp)
  | a :: us, [], _, _, h => absurd ((h a).1 (by simp)) (by simp)
  | a :: us, b :: bs, h, h', hm => by
    obtain ⟨h1, h2⟩ := List.pairwise_cons.1 h
    obtain ⟨k1, k2⟩ := List.pairwise_cons.1 h'
    have e : a = b := by
      rcases List.mem_cons.1 ((hm a).1 (by simp)) with e | ha
      · exact e
      · rcases List.mem_cons.1 ((hm b).2 (by simp)) with e | hb
        · exact e.symm
        · exact absurd (cmpB_self a.1) (by have := cmpB_trans (h1 b hb) (k1 a ha); omega)
    subst e
    rw [PRi.ext h2 k2 fun x => ⟨fun hx => ?_, fun hx => ?_⟩]
    · rcases List.mem_cons.1 ((hm x).1 (List.mem_cons_of_mem _ hx)) with rfl | hx'
      · exact absurd (h1 x hx) (by have := cmpB_self x.1; omega)
      · exact hx'
    · rcases List.mem_cons.1 ((hm x).2 (List.mem_cons_of_mem _ hx)) with rfl | hx'
      · exact absurd (k1 x hx) (by have := cmpB_self x.1; omega)
      · exact hx'
/-- the pairs but the key's -/
def cutP (L : List Pr) (key : ByteArray) : List Pr := L.filter fun x => !decide (x.1 = key)
theorem mem_cutP {L : List Pr} {key : ByteArray} {x : Pr} : x ∈ cutP L key ↔ x ∈ L ∧ x.1 ≠ key := by simp [cutP]
theorem PRi.cut {L : List Pr} (h : PRi L) (key : ByteArray) : PRi (cutP L key) := h.filter _
theorem cutP_len (L : List Pr) (key : ByteArray) : (cutP L key).length ≤ L.length := List.length_filter_le _ _
theorem cutP_next {L : List Pr} {key : ByteArray} {k : Nat} {x : Pr} (hx : L[k]? = some x) : cutP (L.take (k + 1)) key = cutP (L.take k) key ++ if x.1 = key then [] else [x] := by
  have hk := (List.getElem?_eq_some_iff.1 hx).1
  have e : L[k] = x := (List.getElem?_eq_some_iff.1 hx).2
  unfold cutP
  rw [List.take_succ_eq_append_getElem hk, List.filter_append, e]
  by_cases h : x.1 = key <;> simp [h]
/-- ahead of the key -/
def ahead (key : ByteArray) (x : Pr) : Bool := decide (cmpB x.1 key < 0)
/-- the pairs with the key's -/
def putP (L : List Pr) (key val : ByteArray) : List Pr := (cutP L key).takeWhile (ahead key) ++ [(key, val)] ++ (cutP L key).dropWhile (ahead key)
theorem while_at {P : Pr → Bool} : ∀ {C : List Pr} {p : Nat}, p ≤ C.length → (∀ (i : Nat) (x : Pr), i < p → C[i]? = some x → P x = true) → (∀ x, C[p]? = some x → P x = false) → C.takeWhile P = C.take p ∧ C.dropWhile P = C.drop p
  | [], p, _, _, _ => by simp
  | c :: cs, 0, _, _, h2 => by
    have := h2 c rfl
    simp [this]
  | c :: cs, p + 1, hp, h1, h2 => by
    have h0 := h1 0 c (by omega) rfl
    obtain ⟨e1, e2⟩ := while_at (C := cs) (p := p) (by simpa using hp) (fun i x hi hx => h1 (i + 1) x (by omega) (by simpa using hx)) (fun x hx => h2 x (by simpa using hx))
    simp [h0, e1, e2]
theorem PRi.drop_behind : ∀ {C : List Pr} {key : ByteArray}, PRi C → (∀ x, x ∈ C → x.1 ≠ key) → ∀ x, x ∈ C.dropWhile (ahead key) → cmpB key x.1 < 0
  | [], _, _, _, x, hx => by cases hx
  | c :: cs, key, h, hn, x, hx => by
    obtain ⟨h1, h2⟩ := List.pairwise_cons.1 h
    rw [List.dropWhile_cons] at hx
    by_cases hc : cmpB c.1 key < 0
    · have : ahead key c = true := by simpa [ahead] using hc
      rw [if_pos this] at hx
      exact PRi.drop_behind h2 (fun y hy => hn y (by simp [hy])) x hx
    · have : ahead key c = false := by simpa [ahead] using hc
      rw [this] at hx
      have hkc : cmpB key c.1 < 0 := by
        rcases cmpB_tri key c.1 with h3 | h3 | h3
        · exact h3
        · exact absurd h3.symm (hn c (by simp))
        · exact absurd h3 hc
      rcases List.mem_cons.1 hx with rfl | hx
      · exact hkc
      · exact cmpB_trans hkc (h1 x hx)
theorem take_ahead {C : List Pr} {key : ByteArray} : ∀ x, x ∈ C.takeWhile (ahead key) → cmpB x.1 key < 0 := by
  induction C with
  | nil => intro x hx; cases hx
  | cons c cs ih =>
    intro x hx
    rw [List.takeWhile_cons] at hx
    by_cases hc : cmpB c.1 key < 0
    · have : ahead key c = true := by simpa [ahead] using hc
      rw [if_pos this] at hx
      rcases List.mem_cons.1 hx with rfl | hx
      · exact hc
      · exact ih x hx
    · have : ahead key c = false := by simpa [ahead] using hc
      rw [this] at hx
      cases hx
theorem mem_putP {L : List Pr} {key val : ByteArray} {x : Pr} : x ∈ putP L key val ↔ x = (key, val) ∨ (x ∈ L ∧ x.1 ≠ key) := by
  have : x ∈ cutP L key ↔ x ∈ (cutP L key).takeWhile (ahead key) ∨ x ∈ (cutP L key).dropWhile (ahead key) := by
    rw [← List.mem_append, List.takeWhile_append_dropWhile]
  rw [← mem_cutP, this]
  unfold putP
  rw [List.mem_append, List.mem_append, List.mem_singleton]
  constructor
  · rintro ((h | h) | h)
    · exact .inr (.inl h)
    · exact .inl h
    · exact .inr (.inr h)
  · rintro (h | h | h)
    · exact .inl (.inr h)
    · exact .inl (.inl h)
    · exact .inr h
theorem PRi.put {L : List Pr} (h : PRi L) (key val : ByteArray) : PRi (putP L key val) := by
  have hc := h.cut key
  have h2 := hc.drop_behind (key := key) fun x hx => (mem_cutP.1 hx).2
  unfold putP
  refine List.pairwise_append.2 ⟨List.pairwise_append.2 ⟨hc.sublist (List.takeWhile_sublist _), List.pairwise_singleton _ _, fun a ha b hb => ?_⟩, hc.sublist (List.dropWhile_sublist _), fun a ha b hb => ?_⟩
  · obtain rfl : b = (key, val) := by simpa using hb
    exact take_ahead a ha
  · rcases List.mem_append.1 ha with ha | ha
    · exact cmpB_trans (take_ahead a ha) (h2 b hb)
    · obtain rfl : a = (key, val) := by simpa using ha
      exact h2 b hb
theorem putP_len (L : List Pr) (key val : ByteArray) : (putP L key val).length ≤ L.length + 1 := by
  have h1 := cutP_len L key
  have h2 : ((cutP L key).takeWhile (ahead key)).length + ((cutP L key).dropWhile (ahead key)).length = (cutP L key).length := by
    rw [← List.length_append, List.takeWhile_append_dropWhile]
  unfold putP
  rw [List.length_append, List.length_append, List.length_singleton]
  omega
/-- a message done -/
def doP (L : List Pr) (m : Mg) : List Pr := if m.2.1 = true then cutP L m.1 else putP L m.1 m.2.2
def applyP (L : List Pr) (M : List Mg) : List Pr := M.foldl doP L
theorem applyP_next {L : List Pr} {M : List Mg} {k : Nat} {m : Mg} (hm : M[k]? = some m) : applyP L (M.take (k + 1)) = doP (applyP L (M.take k)) m := by
  have hk := (List.getElem?_eq_some_iff.1 hm).1
  have e : M[k] = m := (List.getElem?_eq_some_iff.1 hm).2
  unfold applyP
  rw [List.take_succ_eq_append_getElem hk, List.foldl_append, e]
  rfl
theorem doP_len (L : List Pr) (m : Mg) : (doP L m).length ≤ L.length + 1 := by
  unfold doP
  split
  · have := cutP_len L m.1
    omega
  · exact putP_len _ _ _
theorem applyP_len : ∀ (M : List Mg) (L : List Pr), (applyP L M).length ≤ L.length + M.length
  | [], L => Nat.le_refl _
  | m :: M, L => by
    have h1 := applyP_len M (doP L m)
    have h2 := doP_len L m
    show (applyP (doP L m) M).length ≤ _
    rw [List.length_cons]
    omega
theorem PRi.done {L : List Pr} (h : PRi L) (m : Mg) : PRi (doP L m) := by
  unfold doP
  split
  · exact h.cut _
  · exact h.put _ _
theorem PRi.apply : ∀ {M : List Mg} {L : List Pr}, PRi L → PRi (applyP L M)
  | [], _, h => h
  | m :: M, _, h => PRi.apply (M := M) (h.done m)
theorem mem_doP {L : List Pr} {m : Mg} {x : Pr} (h : x ∈ doP L m) : x = (m.1, m.2.2) ∨ x ∈ L := by
  unfold doP at h
  split at h
  · exact .inr (mem_cutP.1 h).1
  · rcases mem_putP.1 h with h | h
    · exact .inl h
    · exact .inr h.1
theorem key_apply {n : Nat} : ∀ {M : List Mg} {L : List Pr}, (∀ x, x ∈ L → x.1.size ≤ n) → (∀ m, m ∈ M → m.1.size ≤ n) → ∀ x, x ∈ applyP L M → x.1.size ≤ n
  | [], _, h, _, x, hx => h x hx
  | m :: M, L, h, hM, x, hx => key_apply (M := M) (L := doP L m) (fun y hy => by
      rcases mem_doP hy with rfl | hy
      · exact hM m (by simp)
      · exact h y hy) (fun y hy => hM y (by simp [hy])) x hx
/-! ### as a map -/
theorem PRi.get {L : List Pr} (h : PRi L) {key v : ByteArray} : getP L key = some v ↔ (key, v) ∈ L := by
  constructor
  · intro hg
    unfold getP at hg
    cases hf : L.find? (fun m => decide (m.1 = key)) with
    | none => rw [hf] at hg; cases hg
    | some x =>
      rw [hf] at hg
      have h1 := List.find?_some hf
      have h2 := List.mem_of_find?_eq_some hf
      have h3 : x.1 = key := by simpa using h1
      have h4 : x.2 = v := by simpa using hg
      rw [← h3, ← h4]
      exact h2
  · intro hm
    obtain ⟨i, hi⟩ := List.getElem?_of_mem hm
    exact getP_at (x := (key, v)) hi rfl fun j m hj hx e => by
      have := h.at_ hx hi hj
      rw [e, cmpB_self] at this
      omega
theorem opt_ext {a b : Option ByteArray} (h : ∀ v, a = some v ↔ b = some v) : a = b := by
  cases a with
  | none =>
    cases b with
    | none => rfl
    | some y => exact absurd ((h y).2 rfl) (by simp)
  | some x => exact ((h x).1 rfl).symm
/-- what a message says of a key -/
def sayP (key : ByteArray) (s : Option ByteArray) (m : Mg) : Option ByteArray := if m.1 = key then (if m.2.1 = true then none else some m.2.2) else s
theorem get_doP {L : List Pr} (h : PRi L) (m : Mg) (key : ByteArray) : getP (doP L m) key = sayP key (getP L key) m := by
  refine opt_ext fun v => ?_
  rw [(h.done m).get]
  unfold doP sayP
  by_cases hk : m.1 = key
  · rw [if_pos hk]
    by_cases hd : m.2.1 = true
    · rw [if_pos hd, if_pos hd, mem_cutP]
      simp [hk]
    · rw [if_neg hd, if_neg hd, mem_putP]
      constructor
      · rintro (h1 | ⟨_, h1⟩)
        · simp only [Prod.mk.injEq] at h1
          rw [h1.2]
        · exact absurd hk.symm h1
      · intro h1
        left
        rw [← hk, Option.some.inj h1]
  · rw [if_neg hk, h.get]
    by_cases hd : m.2.1 = true
    · rw [if_pos hd, mem_cutP]
      simp only [and_iff_left_iff_imp]
      exact fun _ => fun e => hk e.symm
    · rw [if_neg hd, mem_putP]
      constructor
      · rintro (h1 | ⟨h1, _⟩)
        · simp only [Prod.mk.injEq] at h1
          exact absurd h1.1.symm hk
        · exact h1
      · exact fun h1 => .inr ⟨h1, fun e => hk e.symm⟩
theorem get_applyP (key : ByteArray) : ∀ {M : List Mg} {L : List Pr}, PRi L → getP (applyP L M) key = M.foldl (sayP key) (getP L key)
  | [], _, _ => rfl
  | m :: M, L, h => by
    show getP (applyP (doP L m) M) key = M.foldl (sayP key) (sayP key (getP L key) m)
    rw [get_applyP key (M := M) (h.done m), get_doP h]
/-! ### a span's first -/
def partP (p : Pr → Bool) (most : Int) (L : List Pr) : List Pr := (L.filter p).take most.toNat
theorem filter_next {p : Pr → Bool} {L : List Pr} {k : Nat} {x : Pr} (hx : L[k]? = some x) : (L.take (k + 1)).filter p = (L.take k).filter p ++ if p x = true then [x] else [] := by
  have hk := (List.getElem?_eq_some_iff.1 hx).1
  have e : L[k] = x := (List.getElem?_eq_some_iff.1 hx).2
  rw [List.take_succ_eq_append_getElem hk, List.filter_append, e]
  by_cases h : p x = true <;> simp [h]
/-- at the end, or where there are enough -/
theorem partP_at {p : Pr → Bool} {most : Int} {L : List Pr} {k : Nat} (hle : ((L.take k).filter p).length ≤ most.toNat) (h : L.length ≤ k ∨ most ≤ (((L.take k).filter p).length : Int)) : partP p most L = (L.take k).filter p := by
  unfold partP
  rcases h with h | h
  · rw [List.take_of_length_le h] at hle ⊢
    exact List.take_of_length_le hle
  · have e : most.toNat = ((L.take k).filter p).length := by omega
    rw [e]
    have : L.filter p = (L.take k).filter p ++ (L.drop k).filter p := by rw [← List.filter_append, List.take_append_drop]
    rw [this]
    simp
/-! ### halves -/
/-- the first half, the others, the pivot, whether there are any -/
def halfP (L : List Pr) : List Pr × List Pr × ByteArray × Bool :=
  match L[(L.length + 1) / 2 - 1]?, L[(L.length + 1) / 2]? with
  | some x, some y => (L.take ((L.length + 1) / 2), L.drop ((L.length + 1) / 2), (cutB x.1 y.1).1, true)
  | _, _ => ([], [], ⟨#[]⟩, false)
theorem halfP_few {L : List Pr} (h : L.length < 2) : halfP L = ([], [], ⟨#[]⟩, false) := by
  unfold halfP
  rw [List.getElem?_eq_none (l := L) (i := (L.length + 1) / 2) (by omega)]
  split
  · rename_i h2
    cases h2
  · rfl
theorem halfP_some {L : List Pr} {x y : Pr} (hx : L[(L.length + 1) / 2 - 1]? = some x) (hy : L[(L.length + 1) / 2]? = some y) : halfP L = (L.take ((L.length + 1) / 2), L.drop ((L.length + 1) / 2), (cutB x.1 y.1).1, true) := by
  unfold halfP
  rw [hx, hy]
/-- a cut is behind the one, not behind the other -/
theorem cutB_mid {a b : ByteArray} (h : cmpB a b < 0) : cmpB a (cutB a b).1 < 0 ∧ cmpB (cutB a b).1 b ≤ 0 := by
  rw [cutB_some (by omega)]
  refine ⟨?_, ?_⟩
  · have := cmp_take_cut a.data.toList b.data.toList h
    unfold cmpB
    rw [extract_list]
    exact this
  · have : ∀ (k : Nat) (l : List UInt8), Lib.compareBytes (l.take k) l ≤ 0 := by
      intro k
      induction k with
      | zero => intro l; cases l <;> simp [Lib.compareBytes]
      | succ k ih =>
        intro l
        cases l with
        | nil => simp [Lib.compareBytes]
        | cons z l =>
          rw [List.take_succ_cons, cmp_cons_eq]
          exact ih l
    unfold cmpB
    rw [extract_list]
    exact this _ _
end Lf
end Go.Proofs.Ytoibkjggfkkdhaa
