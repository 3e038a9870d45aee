/-
  LeafLast, SortM, SortM2, SortM3. Put together by pack.py.
-/
import Derived.Test.YtlabbmfiecbigaaPkAH
import Derived.Test.YtlabbmfiecbigaaPqSortP
import Derived.Test.YtlabbmfiecbigaaPkAG
import Derived.Test.YtlabbmfiecbigaaPkAE
import Derived.StillTailTactics
import Derived.Deep.QuietTactic

namespace Go.Proofs.Ytlabbmfiecbigaa
namespace Lf
open Go.RowKit Lx Bu St
/-- the message at place i, if no other one of its key is next -/
def keepM (X : List Mg) (i : Nat) : List Mg :=
  match X[i]? with
  | none => []
  | some x => match X[i + 1]? with
    | none => [x]
    | some y => if y.1 = x.1 then [] else [x]
def lastM (X : List Mg) : Nat → List Mg
  | 0 => []
  | k + 1 => lastM X k ++ keepM X k
theorem keepM_end {X : List Mg} {i : Nat} {x : Mg} (hx : X[i]? = some x) (hn : X[i + 1]? = none) : keepM X i = [x] := by
  unfold keepM
  rw [hx]
  simp only
  rw [hn]
theorem keepM_yes {X : List Mg} {i : Nat} {x y : Mg} (hx : X[i]? = some x) (hy : X[i + 1]? = some y) (h : y.1 ≠ x.1) : keepM X i = [x] := by
  unfold keepM
  rw [hx]
  simp only
  rw [hy]
  simp only
  rw [if_neg h]
theorem keepM_no {X : List Mg} {i : Nat} {x y : Mg} (hx : X[i]? = some x) (hy : X[i + 1]? = some y) (h : y.1 = x.1) : keepM X i = [] := by
  unfold keepM
  rw [hx]
  simp only
  rw [hy]
  simp only
  rw [if_pos h]
theorem mem_keepM {X : List Mg} {i : Nat} {x : Mg} (h : x ∈ keepM X i) : X[i]? = some x ∧ ∀ y, X[i + 1]? = some y → y.1 ≠ x.1 := by
  cases hx : X[i]? with
  | none =>
    unfold keepM at h
    rw [hx] at h
    cases h
  | some z =>
    cases hy : X[i + 1]? with
    | none =>
      rw [keepM_end hx hy] at h
      obtain rfl : x = z := by simpa using h
      exact ⟨rfl, fun y e => by cases e⟩
    | some y =>
      by_cases he : y.1 = z.1
      · rw [keepM_no hx hy he] at h
        cases h
      · rw [keepM_yes hx hy he] at h
        obtain rfl : x = z := by simpa using h
        exact ⟨rfl, fun y' e => by cases e; exact he⟩
theorem mem_lastM {X : List Mg} {k : Nat} {x : Mg} (h : x ∈ lastM X k) : ∃ i, i < k ∧ X[i]? = some x ∧ ∀ y, X[i + 1]? = some y → y.1 ≠ x.1 := by
  induction k with
  | zero => cases h
  | succ k ih =>
    rcases List.mem_append.1 h with h | h
    · obtain ⟨i, hi, h1⟩ := ih h
      exact ⟨i, by omega, h1⟩
    · exact ⟨k, by omega, mem_keepM h⟩
theorem keepM_len (X : List Mg) (i : Nat) : (keepM X i).length ≤ 1 := by
  unfold keepM
  split
  · simp
  · split
    · simp
    · split <;> simp
theorem lastM_len (X : List Mg) (k : Nat) : (lastM X k).length ≤ k := by
  induction k with
  | zero => exact Nat.le_refl _
  | succ k ih =>
    have := keepM_len X k
    show (lastM X k ++ keepM X k).length ≤ _
    rw [List.length_append]
    omega
theorem keepM_pw (X : List Mg) (i : Nat) : (keepM X i).Pairwise fun a b => cmpB a.1 b.1 < 0 := by
  have h := keepM_len X i
  generalize keepM X i = T at *
  match T, h with
  | [], _ => exact List.Pairwise.nil
  | [x], _ => exact List.pairwise_singleton _ _
theorem lastM_rise {X : List Mg} (hs : Sd (fun m : Mg => m.1) X) (k : Nat) : (lastM X k).Pairwise fun a b => cmpB a.1 b.1 < 0 := by
  induction k with
  | zero => exact List.Pairwise.nil
  | succ k ih =>
    refine List.pairwise_append.2 ⟨ih, keepM_pw X k, fun x hx y hy => ?_⟩
    obtain ⟨i, hi, h1, h2⟩ := mem_lastM hx
    obtain ⟨h3, _⟩ := mem_keepM hy
    have hk := (List.getElem?_eq_some_iff.1 h3).1
    have hz : X[i + 1]? = some (X[i + 1]'(by omega)) := List.getElem?_eq_getElem _
    generalize X[i + 1]'(by omega) = z at hz
    have h4 : cmpB x.1 z.1 ≤ 0 := hs.at_ h1 hz (by omega)
    have h5 : cmpB z.1 y.1 ≤ 0 := hs.at_ hz h3 (by omega)
    have h6 : cmpB x.1 z.1 ≠ 0 := fun e => h2 z hz (cmpB_zero e).symm
    exact lt_le (by omega) h5
/-! ### what they say -/
theorem say_twice (key : ByteArray) (s : Option ByteArray) {x y : Mg} (h : y.1 = x.1) : sayP key (sayP key s x) y = sayP key s y := by
  unfold sayP
  rw [h]
  by_cases hk : x.1 = key <;> simp [hk]
theorem lastM_fold (X : List Mg) (key : ByteArray) (s : Option ByteArray) (k : Nat) : ∀ x, X[k]? = some x → (X.take (k + 1)).foldl (sayP key) s = sayP key ((lastM X k).foldl (sayP key) s) x := by
  induction k with
  | zero =>
    intro x hx
    have hk := (List.getElem?_eq_some_iff.1 hx).1
    have e : X[0] = x := (List.getElem?_eq_some_iff.1 hx).2
    rw [List.take_succ_eq_append_getElem hk, e]
    rfl
  | succ k ih =>
    intro y hy
    have hk := (List.getElem?_eq_some_iff.1 hy).1
    have e : X[k + 1] = y := (List.getElem?_eq_some_iff.1 hy).2
    have hx : X[k]? = some (X[k]'(by omega)) := List.getElem?_eq_getElem _
    generalize X[k]'(by omega) = x at hx
    rw [List.take_succ_eq_append_getElem hk, e, List.foldl_append, ih x hx]
    show sayP key _ y = sayP key ((lastM X k ++ keepM X k).foldl (sayP key) s) y
    by_cases h : y.1 = x.1
    · rw [keepM_no hx hy h, List.append_nil, say_twice key _ h]
    · rw [keepM_yes hx hy h, List.foldl_append]
      rfl
theorem fold_filter (key : ByteArray) (M : List Mg) : ∀ s, M.foldl (sayP key) s = (M.filter fun m => decide (m.1 = key)).foldl (sayP key) s := by
  induction M with
  | nil => intro s; rfl
  | cons m l ih =>
    intro s
    rw [List.foldl_cons, List.filter_cons, ih]
    by_cases h : m.1 = key
    · simp [h]
    · have : sayP key s m = s := by unfold sayP; rw [if_neg h]
      simp [h, this]
/-- T is, of the messages M, the last of each key, by rising keys -/
structure LastOf (M T : List Mg) : Prop where
  rise : T.Pairwise fun a b => cmpB a.1 b.1 < 0
  fold : ∀ key s, T.foldl (sayP key) s = M.foldl (sayP key) s
  len : T.length ≤ M.length
  mem : ∀ x, x ∈ T → x ∈ M
theorem lastOf {M X : List Mg} (hs : Sd (fun m : Mg => m.1) X) (ht : Stb (fun m : Mg => m.1) M X) : LastOf M (lastM X X.length) := by
  refine ⟨lastM_rise hs _, fun key s => ?_, by rw [← ht.len]; exact lastM_len _ _, fun x hx => ?_⟩
  · rw [fold_filter key M, ← ht.2 key, ← fold_filter key X]
    cases hn : X.length with
    | zero =>
      obtain rfl := List.eq_nil_of_length_eq_zero hn
      rfl
    | succ k =>
      have hx : X[k]? = some (X[k]'(by omega)) := List.getElem?_eq_getElem _
      generalize X[k]'(by omega) = x at hx
      have := lastM_fold X key s k x hx
      rw [List.take_of_length_le (by omega)] at this
      rw [this]
      show (lastM X k ++ keepM X k).foldl (sayP key) s = _
      rw [keepM_end hx (List.getElem?_eq_none (by omega)), List.foldl_append]
      rfl
  · obtain ⟨i, _, h1, _⟩ := mem_lastM hx
    exact ht.mem.1 (List.mem_of_getElem? h1)
theorem PRi.ext_get {L L' : List Pr} (h : PRi L) (h' : PRi L') (hg : ∀ key, getP L key = getP L' key) : L = L' :=
  PRi.ext h h' fun x => by rw [show x = (x.1, x.2) from rfl, ← h.get, ← h'.get, hg]
theorem LastOf.apply {M T : List Mg} {L : List Pr} (h : LastOf M T) (hr : PRi L) : applyP L T = applyP L M :=
  PRi.ext_get hr.apply hr.apply fun key => by rw [get_applyP key hr, get_applyP key hr, h.fold]
/-! ### pairs behind messages that rise -/
/-- what is done lies in C, what is left in l: behind the first k of T -/
structure Ap (L : List Pr) (T : List Mg) (k : Nat) (C l : List Pr) : Prop where
  eq : C ++ l = applyP L (T.take k)
  lo : ∀ x, x ∈ C → ∀ (j : Nat) (m : Mg), k ≤ j → T[j]? = some m → cmpB x.1 m.1 < 0
theorem ap_start (L : List Pr) (T : List Mg) : Ap L T 0 [] L := ⟨rfl, fun x hx => by cases hx⟩
theorem ap_end {L : List Pr} {T : List Mg} {C l : List Pr} {k : Nat} (h : Ap L T k C l) (hk : T.length ≤ k) : C ++ l = applyP L T := by
  rw [h.eq, List.take_of_length_le hk]
theorem cmpB_gt {a b : ByteArray} (h : 0 ≤ cmpB a b) (hn : a ≠ b) : cmpB b a < 0 := by
  have h1 := cmpB_neg a b
  have h2 : cmpB a b ≠ 0 := fun e => hn (cmpB_zero e)
  omega
theorem ap_step {L : List Pr} {T : List Mg} {C l : List Pr} {k p q : Nat} {m : Mg} (h : Ap L T k C l) (hr : PRi L) (hT : T.Pairwise fun a b => cmpB a.1 b.1 < 0) (hm : T[k]? = some m)
    (hlo : ∀ (i : Nat) (x : Pr), i < p → l[i]? = some x → cmpB x.1 m.1 < 0) (hhi : ∀ (i : Nat) (x : Pr), p ≤ i → l[i]? = some x → 0 ≤ cmpB x.1 m.1)
    (hq : q = p ∧ (¬ ∃ x, l[p]? = some x ∧ x.1 = m.1) ∨ q = p + 1 ∧ ∃ x, l[p]? = some x ∧ x.1 = m.1) :
    Ap L T (k + 1) (C ++ l.take p ++ if m.2.1 = true then [] else [(m.1, m.2.2)]) (l.drop q) := by
  have hD : PRi (C ++ l) := by rw [h.eq]; exact hr.apply
  obtain ⟨hC, hl, hCl⟩ := List.pairwise_append.1 hD
  have hk := (List.getElem?_eq_some_iff.1 hm).1
  have hpq : p ≤ q := by omega
  -- what is behind the key
  have hgt : ∀ x, x ∈ l.drop q → cmpB m.1 x.1 < 0 := fun x hx => by
    obtain ⟨i, hi⟩ := List.getElem?_of_mem hx
    rw [List.getElem?_drop] at hi
    have h1 := hhi (q + i) x (by omega) hi
    refine cmpB_gt h1 fun e => ?_
    rcases hq with ⟨rfl, hn⟩ | ⟨rfl, z, hz, hzk⟩
    · rcases Nat.eq_zero_or_pos i with rfl | hi0
      · exact hn ⟨x, by simpa using hi, e⟩
      · have hl1 := (List.getElem?_eq_some_iff.1 hi).1
        have h0 : l[q]? = some (l[q]'(by omega)) := List.getElem?_eq_getElem _
        generalize l[q]'(by omega) = y at h0
        have h2 := hhi q y (Nat.le_refl _) h0
        have h3 := PRi.at_ hl h0 hi (by omega)
        rw [e] at h3
        omega
    · have h3 := PRi.at_ hl hz hi (by omega)
      rw [hzk, e, cmpB_self] at h3
      omega
  have hlt : ∀ x, x ∈ l.take p → cmpB x.1 m.1 < 0 := fun x hx => by
    obtain ⟨i, hi⟩ := List.getElem?_of_mem hx
    have hip : i < p := by
      have := (List.getElem?_eq_some_iff.1 hi).1
      rw [List.length_take] at this
      omega
    rw [List.getElem?_take_of_lt hip] at hi
    exact hlo i x hip hi
  have hCm : ∀ x, x ∈ C → cmpB x.1 m.1 < 0 := fun x hx => h.lo x hx k m (Nat.le_refl _) hm
  have hK : ∀ x, x ∈ C ++ l.take p ++ (if m.2.1 = true then [] else [(m.1, m.2.2)]) → cmpB x.1 m.1 < 0 ∨ m.2.1 = false ∧ x = (m.1, m.2.2) := fun x hx => by
    rcases List.mem_append.1 hx with hx | hx
    · rcases List.mem_append.1 hx with hx | hx
      · exact .inl (hCm x hx)
      · exact .inl (hlt x hx)
    · split at hx
      · cases hx
      · rename_i hb
        exact .inr ⟨by simpa using hb, by simpa using hx⟩
  refine ⟨?_, fun x hx j m' hj hm' => ?_⟩
  · rw [applyP_next hm, ← h.eq]
    refine PRi.ext ?_ (hD.done m) fun x => ?_
    · refine List.pairwise_append.2 ⟨List.pairwise_append.2 ⟨?_, ?_, fun a ha b hb => ?_⟩, hl.sublist (List.drop_sublist _ _), fun a ha b hb => ?_⟩
      · exact List.pairwise_append.2 ⟨hC, hl.sublist (List.take_sublist _ _), fun a ha b hb => hCl a ha b (List.mem_of_mem_take hb)⟩
      · split
        · exact List.Pairwise.nil
        · exact List.pairwise_singleton _ _
      · split at hb
        · cases hb
        · obtain rfl : b = (m.1, m.2.2) := by simpa using hb
          rcases List.mem_append.1 ha with ha | ha
          · exact hCm a ha
          · exact hlt a ha
      · rcases hK a ha with h1 | ⟨_, rfl⟩
        · exact cmpB_trans h1 (hgt b hb)
        · exact hgt b hb
    · have hsplit : x ∈ C ++ l ∧ x.1 ≠ m.1 ↔ x ∈ C ∨ x ∈ l.take p ∨ x ∈ l.drop q := by
        constructor
        · rintro ⟨h1, h2⟩
          rcases List.mem_append.1 h1 with h1 | h1
          · exact .inl h1
          · obtain ⟨i, hi⟩ := List.getElem?_of_mem h1
            rcases Nat.lt_or_ge i p with hip | hip
            · exact .inr (.inl (List.mem_of_getElem? (i := i) (by rw [List.getElem?_take_of_lt hip]; exact hi)))
            · rcases Nat.lt_or_ge i q with hiq | hiq
              · exfalso
                rcases hq with ⟨rfl, _⟩ | ⟨rfl, z, hz, hzk⟩
                · omega
                · obtain rfl : i = p := by omega
                  rw [hi] at hz
                  cases hz
                  exact h2 hzk
              · exact .inr (.inr (List.mem_of_getElem? (i := i - q) (by rw [List.getElem?_drop, show q + (i - q) = i by omega]; exact hi)))
        · rintro (h1 | h1 | h1)
          · exact ⟨List.mem_append_left _ h1, cmpB_ne (hCm x h1)⟩
          · exact ⟨List.mem_append_right _ (List.mem_of_mem_take h1), cmpB_ne (hlt x h1)⟩
          · exact ⟨List.mem_append_right _ (List.mem_of_mem_drop h1), (cmpB_ne (hgt x h1)).symm⟩
      unfold doP
      by_cases hd : m.2.1 = true
      · rw [if_pos hd, if_pos hd, mem_cutP, hsplit, List.append_nil, List.mem_append, List.mem_append]
        exact ⟨fun h => h.elim (fun h => h.elim .inl fun h => .inr (.inl h)) fun h => .inr (.inr h), fun h => h.elim (fun h => .inl (.inl h)) fun h => h.elim (fun h => .inl (.inr h)) .inr⟩
      · rw [if_neg hd, if_neg hd, mem_putP, hsplit, List.mem_append, List.mem_append, List.mem_append, List.mem_singleton]
        constructor
        · rintro (((h1 | h1) | h1) | h1)
          · exact .inr (.inl h1)
          · exact .inr (.inr (.inl h1))
          · exact .inl h1
          · exact .inr (.inr (.inr h1))
        · rintro (h1 | h1 | h1 | h1)
          · exact .inl (.inr h1)
          · exact .inl (.inl (.inl h1))
          · exact .inl (.inl (.inr h1))
          · exact .inr h1
  · have h1 : cmpB m.1 m'.1 < 0 := by
      obtain ⟨h2, e1⟩ := List.getElem?_eq_some_iff.1 hm
      obtain ⟨h3, e2⟩ := List.getElem?_eq_some_iff.1 hm'
      subst e1 e2
      exact List.pairwise_iff_getElem.1 hT k j h2 h3 (by omega)
    rcases hK x hx with h2 | ⟨_, rfl⟩
    · exact cmpB_trans h2 h1
    · exact h1
end Lf
end Go.Proofs.Ytlabbmfiecbigaa

namespace Go.Proofs.Ytlabbmfiecbigaa
open Go.RowKit
namespace St
open Mem Lx Bu
/-- a message's key -/
abbrev mk (m : Mg) : ByteArray := m.1
/-- a message laid at place p -/
def stM (w : World) (g p : Nat) (m : Mg) : World := ((w.setCell ⟨g, p * 3, none⟩ (.string m.1)).setCell ⟨g, p * 3 + 1, none⟩ (.bool m.2.1)).setCell ⟨g, p * 3 + 2, none⟩ (.string m.2.2)
theorem flat_set {L : List Mg} {p : Nat} {m : Mg} (hp : p < L.length) : (((L.flatMap MgK.cs).set (p * 3) (.string m.1)).set (p * 3 + 1) (.bool m.2.1)).set (p * 3 + 2) (.string m.2.2) = (L.set p m).flatMap MgK.cs := by
  induction L generalizing p with
  | nil => simp at hp
  | cons y l ih =>
    cases p with
    | zero => simp [MgK]
    | succ p =>
      have h := ih (p := p) (by simpa using hp)
      have e : ∀ (q : Nat) (v : Value) (T : List Value), (MgK.cs y ++ T).set (p * 3 + 3 + q) v = MgK.cs y ++ T.set (p * 3 + q) v := fun q v T => by
        have hl : (MgK.cs y).length = 3 := rfl
        rw [List.set_append_right _ _ (by omega), hl]
        congr 2
        omega
      rw [List.flatMap_cons, List.set_cons_succ, List.flatMap_cons, ← h, show (p + 1) * 3 = p * 3 + 3 + 0 by omega, e 0, show p * 3 + 3 + 0 + 1 = p * 3 + 3 + 1 by omega, e 1, show p * 3 + 3 + 0 + 2 = p * 3 + 3 + 2 by omega, e 2, Nat.add_zero]
theorem vk_set {w : World} {B g c p : Nat} {L : List Mg} (h : M3 w B (some ⟨g, 0, none⟩) c L) (hp : p < L.length) (m : Mg) : M3 (stM w g p m) B (some ⟨g, 0, none⟩) c (L.set p m) := by
  have h1 := (World.ownsRow.stored h (p * 3) (.string m.1)).1
  have h2 := (World.ownsRow.stored h1 (p * 3 + 1) (.bool m.2.1)).1
  have h3 := (World.ownsRow.stored h2 (p * 3 + 2) (.string m.2.2)).1
  rw [flat_set hp] at h3
  unfold M3 VK
  rw [List.length_set]
  exact h3
theorem into_set {g k : Nat} {S : List Nat} (w : World) (v : Value) (hg : g ∈ S) : Flow.Into S w (w.setCell ⟨g, k, none⟩ v) := ⟨rfl, rfl, rfl, by simp [World.setCell], fun i _ hn => Below.heap_setCell _ _ _ _ (fun e => hn (by rw [show i = g from e]; exact hg))⟩
theorem into_stM {g p : Nat} (w : World) (m : Mg) : Flow.Into [g] w (stM w g p m) := ((into_set w _ (by simp)).trans (into_set _ _ (by simp))).trans (into_set _ _ (by simp))
/-- the row in block g, all else as it was -/
structure SS (W w : World) (B g c n : Nat) (L : List Mg) : Prop where
  vk : M3 w B (some ⟨g, 0, none⟩) c L
  hi : Flow.Into [g] W w
  len : L.length = n
section
variable {W w w' : World} {B g c n p q : Nat} {L : List Mg} {x y : Mg}
theorem SS.kept (h : SS W w B g c n L) (hb : Below w.heap.size w w') : SS W w' B g c n L := ⟨h.vk.kept hb, h.hi.trans (Flow.Into.of_below hb), h.len⟩
theorem below_dn (w : World) (m : Nat) : Below w.heap.size w (w.drewN m) := ⟨rfl, rfl, rfl, Nat.le_refl _, fun _ _ => rfl⟩
theorem SS.drew (h : SS W w B g c n L) (m : Nat) : SS W (w.drewN m) B g c n L := h.kept (below_dn w m)
theorem SS.lt (_ : SS W w B g c n L) (hx : L[p]? = some x) : p < L.length := (List.getElem?_eq_some_iff.1 hx).1
theorem SS.ltn (h : SS W w B g c n L) (hx : L[p]? = some x) : p < n := by
  rw [← h.len]
  exact h.lt hx
theorem SS.cell (h : SS W w B g c n L) (hx : L[p]? = some x) : w.cell? ⟨g, p * 3, none⟩ = some (.string x.1) ∧ w.cell? ⟨g, p * 3 + 1, none⟩ = some (.bool x.2.1) ∧ w.cell? ⟨g, p * 3 + 2, none⟩ = some (.string x.2.2) := by
  obtain ⟨g', e, hc⟩ := h.vk.cell hx
  obtain rfl : g = g' := by simpa using e
  exact ⟨hc 0 _ rfl, hc 1 _ rfl, hc 2 _ rfl⟩
theorem SS.free (h : SS W w B g c n L) (j : Nat) : w.frozen? ⟨g, j, none⟩ = false := World.ownsRow.frozenAt h.vk j
theorem SS.swap (h : SS W w B g c n L) (hp : p < n) (hq : q < n) : SS W (stM (stM w g p y) g q x) B g c n ((L.set p y).set q x) :=
  ⟨vk_set (vk_set h.vk (by rw [h.len]; exact hp) y) (by rw [List.length_set, h.len]; exact hq) x, (h.hi.trans (into_stM _ _)).trans (into_stM _ _), by simpa using h.len⟩
end
theorem CCmp (a b : ByteArray) (w : World) : Calls Try.prog 63 #[.string a, .string b] w fun e w' => e = .returned (.int .i64 (cmpB a b)) ∧ Below w.heap.size w w' :=
  (Compare_any a b w).mono fun e w' ⟨he, hw⟩ => ⟨he, by subst hw; exact Below.refl _ _⟩
set_option maxRecDepth 100000 in
set_option maxHeartbeats 2000000 in
theorem cmpMsg_any (x y : Mg) (w : World) : Calls Try.prog 70 #[.agg #[.string x.1, .bool x.2.1, .string x.2.2], .agg #[.string y.1, .bool y.2.1, .string y.2.2]] w fun e w' => e = .returned (.int .i64 (cmpB x.1 y.1)) ∧ Below w.heap.size w w' := by
  go_enter Try.func70, Try.ntmps70
  go_upto_region 1 with fail
  obtain ⟨h0, h1, hb0⟩ := two_new w (.cells #[.string x.1, .bool x.2.1, .string x.2.2] 45) (.cells #[.string y.1, .bool y.2.1, .string y.2.2] 45)
  generalize (w.alloc (.cells #[.string x.1, .bool x.2.1, .string x.2.2] 45)).alloc (.cells #[.string y.1, .bool y.2.1, .string y.2.2] 45) = w1 at *
  obtain ⟨g, hg⟩ : ∃ g, g = w.heap.size := ⟨_, rfl⟩
  rw [← hg] at h0 h1 ⊢
  obtain ⟨c0, c1, c2⟩ := box3 h0
  obtain ⟨d0, d1, d2⟩ := box3 h1
  have HB := Lib.hid hb0
  clear h0 h1 hb0 hg
  go_wp2_with (go_at_call 63; refine (CCmp _ _ _).mono ?_; rintro e w' ⟨rfl, hb⟩)
  go_ret
  exact ⟨rfl, HB.out.trans (hb.mono HB.out.size)⟩
set_option maxRecDepth 100000 in
set_option maxHeartbeats 4000000 in
theorem swapRange_any {W w : World} {B g c n a b k : Nat} {L P X M Y S : List Mg} (cv : Value) (h : SS W w B g c n L) (hL : L = P ++ (X ++ (M ++ (Y ++ S)))) (ha : P.length = a) (hb : a + X.length + M.length = b) (hX : X.length = k) (hY : Y.length = k) (hn : n ≤ 1000) :
    Calls Try.prog 78 #[.slice (some ⟨g, 0, none⟩) n c, .int .i64 (a : Int), .int .i64 (b : Int), .int .i64 (k : Int), cv] w fun e w' => e = .returned (.tuple #[]) ∧ SS W w' B g c n (P ++ (Y ++ (M ++ (X ++ S)))) := by
  have hlen : a + k + M.length + k + S.length = n := by
    have := h.len
    rw [hL] at this
    simp at this
    omega
  have hkn : k ≤ n := by omega
  have hbk : b + k ≤ n := by omega
  have hak : a + k ≤ n := by omega
  have hab : a + k ≤ b := by omega
  have H0 : Hid (SwR P X M Y S L 0) := by
    subst hL
    exact swR_start
  have HST : Hid (∀ (L : List Mg) (i : Nat), SwR P X M Y S L i → i < k → ∃ x y, L[a + i]? = some x ∧ L[b + i]? = some y ∧ SwR P X M Y S ((L.set (a + i) y).set (b + i) x) (i + 1)) := fun L i hs hi => swR_step hs (by omega) (by omega) ha hb
  have HEN : Hid (∀ L : List Mg, SwR P X M Y S L k → L = P ++ (Y ++ (M ++ (X ++ S)))) := fun L hs => swR_end hs hX hY
  have HS0 := Lib.hid h
  clear h hL ha hb hX hY hlen
  go_enter Try.func78, Try.ntmps78
  go_wp2_with fail
  go_loopg [10] k (fun gk iv wr => ∃ (i : Nat) (L : List Mg), i ≤ k ∧ gk = k - i ∧ iv = .int .i64 (i : Int) ∧ Hid (SwR P X M Y S L i) ∧ Hid (SS W wr B g c n L))
  case atStart => exact ⟨0, L, Nat.zero_le _, rfl, rfl, H0, HS0⟩
  case round =>
    obtain ⟨i, L, hi, rfl, rfl, HR, HS⟩ := hrel
    clear H0 HS0
    by_cases hik : i < k
    · obtain ⟨x, y, hx, hy, hs⟩ := HST.out L i HR.out hik
      have HR2 := Lib.hid hs
      obtain ⟨p, hp⟩ : ∃ p, p = a + i := ⟨_, rfl⟩
      obtain ⟨q, hq⟩ : ∃ q, q = b + i := ⟨_, rfl⟩
      rw [← hp] at hx HR2
      rw [← hq] at hy HR2
      have hpn := HS.out.ltn hx
      have hqn := HS.out.ltn hy
      have hw1 : IntKind.i64.wrap ((a : Int) + (i : Int)) = (p : Int) := by rw [IntKind.wrap_i64]; omega
      have hw2 : IntKind.i64.wrap ((b : Int) + (i : Int)) = (q : Int) := by rw [IntKind.wrap_i64]; omega
      have hw3 : IntKind.i64.wrap ((i : Int) + 1) = ((i + 1 : Nat) : Int) := by rw [IntKind.wrap_i64]; omega
      have hpq : p < q := by omega
      obtain ⟨c0, c1, c2⟩ := HS.out.cell hx
      obtain ⟨d0, d1, d2⟩ := HS.out.cell hy
      have HX := Lib.hid hx
      have HY := Lib.hid hy
      clear hx hy hs hp hq HR
      go_upto_region 3 with fail
      have x0 := fun t : Drift.Tide [] wr [] => Drift.Tide.cell c0 (by simp) t
      have x1 := fun t : Drift.Tide [] wr [] => Drift.Tide.cell c1 (by simp) t
      have x2 := fun t : Drift.Tide [] wr [] => Drift.Tide.cell c2 (by simp) t
      have y0 := fun t : Drift.Tide [] wr [] => Drift.Tide.cell d0 (by simp) t
      have y1 := fun t : Drift.Tide [] wr [] => Drift.Tide.cell d1 (by simp) t
      have y2 := fun t : Drift.Tide [] wr [] => Drift.Tide.cell d2 (by simp) t
      clear c0 c1 c2 d0 d1 d2
      refine Drift.wp_region_drift_late [] [(0,[]),(1,[]),(2,[]),(3,[]),(4,[]),(5,[]),(6,[]),(7,[]),(8,[]),(9,[]),(10,[]),(11,[]),(12,[]),(13,[]),(14,[]),(15,[]),(16,[]),(17,[]),(18,[]),(19,[])] [] [] [4, 5, 6, 7, 14, 15, 16, 17, 18] (by kernel_rfl) (by kernel_rfl) (by simp) ?_
      simp only [Drift.pick, Drift.opsAt, List.getElem?_toArray, List.getElem?_cons_zero, List.getElem?_cons_succ, List.cons_append, List.nil_append, List.filterMap_nil]
      repeat (refine Drift.walk_step (fun K hK => ?_); go_simp; (refine hK _ ?_; clear hK K))
      refine Drift.walk_clear rfl (.slice (some ⟨g, 0, none⟩) n c) (fun W => by go_simp) ?_
      refine Drift.walk_clear rfl (.int .i64 b) (fun W => by go_simp) ?_
      refine Drift.walk_clear rfl (.int .i64 i) (fun W => by go_simp) ?_
      refine Drift.walk_clear rfl (.int .i64 q) (fun W => by go_simp) ?_
      repeat (refine Drift.walk_step (fun K hK => ?_); go_simp; (refine hK _ ?_; clear hK K))
      refine Drift.walk_clear rfl (.slice (some ⟨g, 0, none⟩) n c) (fun W => by go_simp) ?_
      refine Drift.walk_clear rfl (.int .i64 a) (fun W => by go_simp) ?_
      refine Drift.walk_clear rfl (.int .i64 i) (fun W => by go_simp) ?_
      refine Drift.walk_clear rfl (.int .i64 p) (fun W => by go_simp) ?_
      refine Drift.walk_clear rfl (.pointer (some ⟨g, p * 3, none⟩)) (fun W => by go_simp) ?_
      repeat (refine Drift.walk_step (fun K hK => ?_); go_simp; (refine hK _ ?_; clear hK K))
      refine Drift.walk_nil ?_
      intro w6 hb6 _
      clear x0 x1 x2 y0 y1 y2
      have h6 : SS W w6 B g c n L := HS.out.kept hb6
      have H7 := Lib.hid (h6.swap (x := x) (y := y) (p := p) (q := q) hpn hqn)
      have f := h6.free
      obtain ⟨c0, c1, c2⟩ := h6.cell HX.out
      obtain ⟨d0, d1, d2⟩ := h6.cell HY.out
      clear h6 hb6 HS
      simp only [List.length_cons, List.length_nil, List.drop_succ_cons, List.drop_zero, Nat.zero_add, Nat.reduceAdd]
      go_wp2_with fail
      rw [Flow.Nrm_normal]
      unfold stM at H7
      generalize (((((w6.setCell ⟨g, p * 3, none⟩ (.string y.1)).setCell ⟨g, p * 3 + 1, none⟩ (.bool y.2.1)).setCell ⟨g, p * 3 + 2, none⟩ (.string y.2.2)).setCell ⟨g, q * 3, none⟩ (.string x.1)).setCell ⟨g, q * 3 + 1, none⟩ (.bool x.2.1)).setCell ⟨g, q * 3 + 2, none⟩ (.string x.2.2) = w7 at *
      clear c0 c1 c2 d0 d1 d2 f
      go_wp2_with fail
      go_roundg (k - (i + 1))
      case measure => omega
      case rel => exact ⟨i + 1, _, hik, rfl, by go_num, HR2, H7⟩
    · obtain rfl : i = k := by omega
      have HE := Lib.hid (HEN.out L HR.out)
      clear hik HR HST HEN
      go_wp2_with fail
      go_end0
      exact ⟨rfl, by rw [← HE.out]; exact HS.out⟩
set_option maxRecDepth 100000 in
set_option maxHeartbeats 4000000 in
theorem rotate_any {W w : World} {B g c n a m b : Nat} {L P U V S : List Mg} (cv : Value) (h : SS W w B g c n L) (hL : L = P ++ (U ++ (V ++ S))) (ha : P.length = a) (hm : a + U.length = m) (hb : m + V.length = b) (hu : 1 ≤ U.length) (hv : 1 ≤ V.length) (hn : n ≤ 1000) :
    Calls Try.prog 77 #[.slice (some ⟨g, 0, none⟩) n c, .int .i64 (a : Int), .int .i64 (m : Int), .int .i64 (b : Int), cv] w fun e w' => e = .returned (.tuple #[]) ∧ SS W w' B g c n (P ++ (V ++ (U ++ S))) := by
  have hlen : b + S.length = n := by
    have := h.len
    rw [hL] at this
    simp at this
    omega
  obtain ⟨T, hT⟩ : ∃ T, T = P ++ (V ++ (U ++ S)) := ⟨_, rfl⟩
  rw [← hT]
  have H0 : Hid (Rot T L (m - a) (b - m) m) := ⟨P, U, V, S, hL, hT, by omega, by omega, by omega⟩
  have HS0 := Lib.hid h
  have hbn : b ≤ n := by omega
  have ham : a + 1 ≤ m := by omega
  have hmb : m + 1 ≤ b := by omega
  have cS := fun (w : World) (L P X M Y S : List Mg) (a b k : Nat) (h : SS W w B g c n L) (hL : L = P ++ (X ++ (M ++ (Y ++ S)))) (ha : P.length = a) (hb : a + X.length + M.length = b) (hX : X.length = k) (hY : Y.length = k) => Lib.hid (swapRange_any cv h hL ha hb hX hY hn)
  clear h hL ha hm hb hu hv hlen hT
  go_enter Try.func77, Try.ntmps77
  obtain ⟨i0, hi0⟩ : ∃ i0, i0 = m - a := ⟨_, rfl⟩
  obtain ⟨j0, hj0⟩ : ∃ j0, j0 = b - m := ⟨_, rfl⟩
  rw [← hi0, ← hj0] at H0
  have hw1 : IntKind.i64.wrap ((m : Int) - (a : Int)) = (i0 : Int) := by rw [IntKind.wrap_i64]; omega
  have hw2 : IntKind.i64.wrap ((b : Int) - (m : Int)) = (j0 : Int) := by rw [IntKind.wrap_i64]; omega
  have hi1 : 1 ≤ i0 := by omega
  have hj1 : 1 ≤ j0 := by omega
  have him : i0 ≤ m := by omega
  have hjn : m + j0 ≤ n := by omega
  clear hi0 hj0 ham hmb hbn
  go_upto_block 0 with fail
  clear hw1 hw2
  go_cut [10, 11] (fun iv jv wx => ∃ (i : Nat) (L : List Mg), iv = .int .i64 (i : Int) ∧ jv = .int .i64 (i : Int) ∧ i ≤ m ∧ m + i ≤ n ∧ Hid (Rot T L i i m) ∧ Hid (SS W wx B g c n L))
  case first =>
    go_wp2_with fail
    go_loopg [10, 11] (i0 + j0) (fun gk iv jv wr => ∃ (i j : Nat) (L : List Mg), 1 ≤ i ∧ 1 ≤ j ∧ i ≤ m ∧ m + j ≤ n ∧ gk = i + j ∧ iv = .int .i64 (i : Int) ∧ jv = .int .i64 (j : Int) ∧ Hid (Rot T L i j m) ∧ Hid (SS W wr B g c n L))
    case atStart => exact ⟨i0, j0, L, hi1, hj1, him, hjn, rfl, rfl, rfl, H0, HS0⟩
    case round =>
      obtain ⟨i, j, L, h1, h2, h3, h4, rfl, rfl, rfl, HR, HS⟩ := hrel
      clear H0 HS0 hi1 hj1 him hjn
      rcases Nat.lt_trichotomy i j with hij | rfl | hij
      · obtain ⟨P, X, M, Y, S, e1, e2, e3, e4, e5, e6⟩ := rot_lt HR.out hij
        have hw1 : IntKind.i64.wrap ((m : Int) - (i : Int)) = ((m - i : Nat) : Int) := by rw [IntKind.wrap_i64]; omega
        have hw2 : IntKind.i64.wrap ((m : Int) + (j : Int)) = ((m + j : Nat) : Int) := by rw [IntKind.wrap_i64]; omega
        have hw3 : IntKind.i64.wrap (((m + j : Nat) : Int) - (i : Int)) = ((m + j - i : Nat) : Int) := by rw [IntKind.wrap_i64]; omega
        have hw4 : IntKind.i64.wrap ((j : Int) - (i : Int)) = ((j - i : Nat) : Int) := by rw [IntKind.wrap_i64]; omega
        obtain ⟨p, hp⟩ : ∃ p, p = m - i := ⟨_, rfl⟩
        obtain ⟨r, hr⟩ : ∃ r, r = m + j := ⟨_, rfl⟩
        obtain ⟨q, hq⟩ : ∃ q, q = r - i := ⟨_, rfl⟩
        obtain ⟨s, hs⟩ : ∃ s, s = j - i := ⟨_, rfl⟩
        rw [← hr] at hw2 hw3 e3
        rw [← hp] at hw1 e2 e3
        rw [← hq] at hw3 e3
        rw [← hs] at hw4 e6
        have HR2 := Lib.hid e6
        have cS' := cS wr _ P X M Y S p q i HS.out e1 e2 e3 e4 e5
        have hd : (decide ((i : Int) > (j : Int))) = false := by simp; omega
        have hd2 : ((i : Int) != (j : Int)) = true := by simp; omega
        have hs1 : 1 ≤ s := by omega
        have hs2 : m + s ≤ n := by omega
        have hs3 : s < j := by omega
        clear e1 e2 e3 e4 e5 e6 hp hq hr hs HR HS cS
        go_wp2_with (go_at_call 78; refine cS'.out.mono ?_; rintro e w7 ⟨rfl, H7⟩)
        have H8 := Lib.hid H7
        go_roundg (i + s)
        case measure => omega
        case rel => exact ⟨i, s, _, h1, hs1, h3, hs2, rfl, rfl, by go_num, HR2, H8⟩
      · have HS9 := HS
        have hd2 : ((i : Int) != (i : Int)) = false := by simp
        clear cS HS
        go_wp2_with fail
        go_meet
        exact ⟨i, L, rfl, rfl, h3, h4, HR, HS9⟩
      · obtain ⟨P, X, M, Y, S, e1, e2, e3, e4, e5, e6⟩ := rot_gt HR.out hij
        have hw1 : IntKind.i64.wrap ((m : Int) - (i : Int)) = ((m - i : Nat) : Int) := by rw [IntKind.wrap_i64]; omega
        have hw4 : IntKind.i64.wrap ((i : Int) - (j : Int)) = ((i - j : Nat) : Int) := by rw [IntKind.wrap_i64]; omega
        obtain ⟨p, hp⟩ : ∃ p, p = m - i := ⟨_, rfl⟩
        obtain ⟨s, hs⟩ : ∃ s, s = i - j := ⟨_, rfl⟩
        rw [← hp] at hw1 e2 e3
        rw [← hs] at hw4 e6
        have HR2 := Lib.hid e6
        have cS' := cS wr _ P X M Y S p m j HS.out e1 e2 e3 e4 e5
        have hd : (decide ((i : Int) > (j : Int))) = true := by simp; omega
        have hd2 : ((i : Int) != (j : Int)) = true := by simp; omega
        have hs1 : 1 ≤ s := by omega
        have hs2 : s ≤ m := by omega
        have hs3 : s < i := by omega
        clear e1 e2 e3 e4 e5 e6 hp hs HR HS cS
        go_wp2_with (go_at_call 78; refine cS'.out.mono ?_; rintro e w7 ⟨rfl, H7⟩)
        have H8 := Lib.hid H7
        go_roundg (s + j)
        case measure => omega
        case rel => exact ⟨s, j, _, hs1, h2, hs2, h4, rfl, by go_num, rfl, HR2, H8⟩
  case rest =>
  obtain ⟨i, L', rfl, rfl, h3, h4, HR, HS⟩ := hcut
  obtain ⟨P, X, Y, S, e1, e2, e3, e4, e5, e6⟩ := rot_eq HR.out
  have hw1 : IntKind.i64.wrap ((m : Int) - (i : Int)) = ((m - i : Nat) : Int) := by rw [IntKind.wrap_i64]; omega
  obtain ⟨p, hp⟩ : ∃ p, p = m - i := ⟨_, rfl⟩
  rw [← hp] at hw1 e2 e3
  have cS' := cS wc _ P X [] Y S p m i HS.out e1 e2 e3 e4 e5
  rw [e6] at cS'
  clear e1 e2 e3 e4 e5 e6 hp HR HS cS H0 HS0
  go_wp2_with (go_at_call 78; refine cS'.out.mono ?_; rintro e w7 ⟨rfl, H7⟩)
  go_end0
  exact ⟨rfl, H7⟩
end St
end Go.Proofs.Ytlabbmfiecbigaa

namespace Go.Proofs.Ytlabbmfiecbigaa
open Go.RowKit
namespace St
open Mem Lx Bu
set_option maxRecDepth 100000 in
set_option maxHeartbeats 4000000 in
theorem insertion_any {W w : World} {B g c n a b : Nat} {L P U S : List Mg} (h : SS W w B g c n L) (hL : L = P ++ (U ++ S)) (ha : P.length = a) (hb : a + U.length = b) (hn : n ≤ 1000) :
    Calls Try.prog 74 #[.slice (some ⟨g, 0, none⟩) n c, .int .i64 (a : Int), .int .i64 (b : Int), .func (.func 70) #[] #[]] w fun e w' => e = .returned (.tuple #[]) ∧ ∃ X, SS W w' B g c n (P ++ (X ++ S)) ∧ Sd mk X ∧ Stb mk U X := by
  have hlen : b + S.length = n := by
    have := h.len
    rw [hL] at this
    simp at this
    omega
  have H0 : Hid (InsO mk P U S L 1) := by
    subst hL
    exact insO_start
  obtain ⟨N, hN⟩ : ∃ N, N = U.length := ⟨_, rfl⟩
  have HEN : Hid (∀ (L : List Mg) (k : Nat), InsO mk P U S L k → N ≤ k → ∃ X, L = P ++ (X ++ S) ∧ Sd mk X ∧ Stb mk U X) := fun L k h hk => insO_end h (by omega)
  have HIS : Hid (∀ (L : List Mg) (k : Nat), InsO mk P U S L k → k < N → InsI mk P U S L k k) := fun L k h hk => insI_start h (by omega)
  have HIP : Hid (∀ (L : List Mg) (k j : Nat), InsI mk P U S L k (j + 1) → ∃ x y, L[a + j + 1]? = some x ∧ L[a + j]? = some y ∧ (¬ cmpB (mk x) (mk y) < 0 → InsO mk P U S L (k + 1)) ∧ (cmpB (mk x) (mk y) < 0 → InsI mk P U S ((L.set (a + j + 1) y).set (a + j) x) k j)) := fun L k j h => insI_pair h ha
  have HS0 := Lib.hid h
  have hbN : a + N = b := by omega
  have hbn : b ≤ n := by omega
  clear h hL ha hb hlen hN
  go_enter Try.func74, Try.ntmps74
  have hw1 : IntKind.i64.wrap ((a : Int) + 1) = ((a + 1 : Nat) : Int) := by rw [IntKind.wrap_i64]; omega
  go_wp2_with fail
  clear hw1
  go_loopg [8] (N - 1) (fun gk iv wr => ∃ (k i : Nat) (L : List Mg), 1 ≤ k ∧ (k ≤ N ∨ k = 1) ∧ gk = N - k ∧ Hid (i = a + k) ∧ iv = .int .i64 (i : Int) ∧ Hid (InsO mk P U S L k) ∧ Hid (SS W wr B g c n L))
  case atStart => exact ⟨1, a + 1, L, Nat.le_refl _, .inr rfl, rfl, rfl, by go_num, H0, HS0⟩
  case round =>
    obtain ⟨k, i, L, hk1, hkN, rfl, hi, rfl, HO, HS⟩ := hrel
    clear H0 HS0
    by_cases hk : k < N
    · have hib : i < b := by have := hi.out; omega
      have hia : a < i := by have := hi.out; omega
      have hin : i < n := by omega
      go_upto_block 1 with fail
      go_cut [8] (fun iv wx => iv = .int .i64 (i : Int) ∧ Hid (∃ L, InsO mk P U S L (k + 1) ∧ SS W wx B g c n L))
      case first =>
        obtain ⟨wo, rfl⟩ : ∃ wo : World, wo = wr := ⟨_, rfl⟩
        have HI := Lib.hid (HIS.out L k HO.out hk)
        have HS1 := HS
        clear HO HS
        go_wp2_with fail
        go_loopg [9] k (fun gk jv wx => ∃ (p : Nat) (L : List Mg), gk ≤ k ∧ Hid (p = a + gk) ∧ jv = .int .i64 (p : Int) ∧ Hid (InsI mk P U S L k gk) ∧ Hid (SS W wx B g c n L))
        case atStart => exact ⟨i, L, Nat.le_refl _, hi, rfl, HI, HS1⟩
        case round =>
          obtain ⟨p, L, hj, hp, rfl, HR, HS⟩ := hrel
          clear HI HS1
          by_cases h0 : gk = 0
          · subst h0
            obtain rfl : p = a := by have := hp.out; omega
            have HZ := Lib.hid (insI_zero HR.out)
            clear HR hj
            have hd : decide ((p : Int) > (p : Int)) = false := by simp
            go_upto_region 4 with fail
            go_quiet (fail)
            go_wp2_with fail
            go_meet
            exact ⟨rfl, L, HZ.out, HS.out.drew _⟩
          · obtain ⟨j, rfl⟩ : ∃ j, gk = j + 1 := ⟨gk - 1, by omega⟩
            obtain ⟨x, y, hx, hy, hge, hlt⟩ := HIP.out L k j HR.out
            obtain ⟨q, hq⟩ : ∃ q, q = a + j := ⟨_, rfl⟩
            rw [show a + j + 1 = p by have := hp.out; omega] at hx hlt
            rw [show a + j = q by omega] at hy hlt
            have hpn := HS.out.ltn hx
            have hqn := HS.out.ltn hy
            have hpq : p = q + 1 := by have := hp.out; omega
            have hpa : a < p := by omega
            have hw1 : IntKind.i64.wrap ((p : Int) - 1) = (q : Int) := by rw [IntKind.wrap_i64]; omega
            have hd : decide ((p : Int) > (a : Int)) = true := by simp; omega
            obtain ⟨c0, c1, c2⟩ := HS.out.cell hx
            obtain ⟨d0, d1, d2⟩ := HS.out.cell hy
            have HX := Lib.hid hx
            have HY := Lib.hid hy
            have cC := fun w => Lib.hid (cmpMsg_any x y w)
            have HP := Lib.hid hpq
            have HQ := Lib.hid hq
            clear hx hy hp hq hpq HR h0
            go_upto_region 4 with fail
            have x0 := fun t : Drift.Tide [] wr [] => Drift.Tide.cell c0 (by simp) t
            have x1 := fun t : Drift.Tide [] wr [] => Drift.Tide.cell c1 (by simp) t
            have x2 := fun t : Drift.Tide [] wr [] => Drift.Tide.cell c2 (by simp) t
            have y0 := fun t : Drift.Tide [] wr [] => Drift.Tide.cell d0 (by simp) t
            have y1 := fun t : Drift.Tide [] wr [] => Drift.Tide.cell d1 (by simp) t
            have y2 := fun t : Drift.Tide [] wr [] => Drift.Tide.cell d2 (by simp) t
            clear c0 c1 c2 d0 d1 d2
            refine Drift.wp_region_drift [] [(0,[]),(1,[]),(2,[]),(3,[]),(4,[]),(5,[]),(6,[]),(7,[]),(8,[]),(9,[]),(10,[]),(11,[]),(12,[]),(13,[]),(14,[]),(15,[]),(16,[])] [] [] (by kernel_rfl) (by kernel_rfl) (by simp) ?_
            simp only [Drift.pick, Drift.opsAt, List.getElem?_toArray, List.getElem?_cons_zero, List.getElem?_cons_succ, List.cons_append, List.nil_append, List.filterMap_nil]
            repeat (refine Drift.walk_step (fun K hK => ?_); go_simp; first | (refine hK _ ?_; clear hK K) | (apply Exists.intro; refine ⟨fun q => ?_, hK _ ?_⟩; (go_at_call 70; exact (cC _).out); clear hK K))
            refine Drift.walk_nil ?_
            intro w2 hb _
            have HS2 := Lib.hid (HS.out.kept hb)
            clear x0 x1 x2 y0 y1 y2 hb HS cC
            simp only [List.length_cons, List.length_nil, List.drop_succ_cons, List.drop_nil, Nat.zero_add, Nat.reduceAdd]
            have HS := HS2
            clear HS2
            by_cases hc : cmpB x.1 y.1 < 0
            · have HI := Lib.hid (hlt hc)
              generalize cmpB x.1 y.1 = z at *
              clear hge hlt
              go_upto_region 6 with fail
              obtain ⟨c0, c1, c2⟩ := HS.out.cell HX.out
              obtain ⟨d0, d1, d2⟩ := HS.out.cell HY.out
              have hne : p ≠ q := by have := HP.out; omega
              have hne' : q ≠ p := by have := HP.out; omega
              have x0 := fun t : Drift.Tide [] w2 [] => Drift.Tide.cell c0 (by simp) t
              have x1 := fun t : Drift.Tide [] w2 [] => Drift.Tide.cell c1 (by simp) t
              have x2 := fun t : Drift.Tide [] w2 [] => Drift.Tide.cell c2 (by simp) t
              have y0 := fun t : Drift.Tide [] w2 [] => Drift.Tide.cell d0 (by simp) t
              have y1 := fun t : Drift.Tide [] w2 [] => Drift.Tide.cell d1 (by simp) t
              have y2 := fun t : Drift.Tide [] w2 [] => Drift.Tide.cell d2 (by simp) t
              clear c0 c1 c2 d0 d1 d2
              refine Drift.wp_region_drift_late [] [(0,[]),(1,[]),(2,[]),(3,[]),(4,[]),(5,[]),(6,[]),(7,[]),(8,[]),(9,[]),(10,[]),(11,[]),(12,[]),(13,[])] [] [] [2, 3, 4, 10, 11, 12] (by kernel_rfl) (by kernel_rfl) (by simp) ?_
              simp only [Drift.pick, Drift.opsAt, List.getElem?_toArray, List.getElem?_cons_zero, List.getElem?_cons_succ, List.cons_append, List.nil_append, List.filterMap_nil]
              repeat (refine Drift.walk_step (fun K hK => ?_); go_simp; (refine hK _ ?_; clear hK K))
              refine Drift.walk_clear rfl (.slice (some ⟨g, 0, none⟩) n c) (fun W => by go_simp) ?_
              refine Drift.walk_clear rfl (.int .i64 p) (fun W => by go_simp) ?_
              refine Drift.walk_clear rfl (.int .i64 q) (fun W => by go_simp) ?_
              repeat (refine Drift.walk_step (fun K hK => ?_); go_simp; (refine hK _ ?_; clear hK K))
              refine Drift.walk_clear rfl (.slice (some ⟨g, 0, none⟩) n c) (fun W => by go_simp) ?_
              refine Drift.walk_clear rfl (.int .i64 p) (fun W => by go_simp) ?_
              refine Drift.walk_clear rfl (.pointer (some ⟨g, p * 3, none⟩)) (fun W => by go_simp) ?_
              repeat (refine Drift.walk_step (fun K hK => ?_); go_simp; (refine hK _ ?_; clear hK K))
              refine Drift.walk_nil ?_
              intro w6 hb6 _
              clear x0 x1 x2 y0 y1 y2
              have h6 : SS W w6 B g c n L := HS.out.kept hb6
              have H7 := Lib.hid (h6.swap (x := x) (y := y) (p := p) (q := q) hpn hqn)
              have f := h6.free
              obtain ⟨c0, c1, c2⟩ := h6.cell HX.out
              obtain ⟨d0, d1, d2⟩ := h6.cell HY.out
              clear h6 hb6 HS
              simp only [List.length_cons, List.length_nil, List.drop_succ_cons, List.drop_zero, Nat.zero_add, Nat.reduceAdd]
              go_wp2_with fail
              rw [Flow.Nrm_normal]
              unfold stM at H7
              generalize (((((w6.setCell ⟨g, p * 3, none⟩ (.string y.1)).setCell ⟨g, p * 3 + 1, none⟩ (.bool y.2.1)).setCell ⟨g, p * 3 + 2, none⟩ (.string y.2.2)).setCell ⟨g, q * 3, none⟩ (.string x.1)).setCell ⟨g, q * 3 + 1, none⟩ (.bool x.2.1)).setCell ⟨g, q * 3 + 2, none⟩ (.string x.2.2) = w7 at *
              clear c0 c1 c2 d0 d1 d2 f
              go_wp2_with fail
              go_roundg j
              case measure => omega
              case rel => exact ⟨q, _, by omega, HQ.out, rfl, HI, H7⟩
            · have HZ := Lib.hid (hge (Int.not_lt.1 hc))
              have hd2 : decide (cmpB x.1 y.1 < 0) = false := by simpa using hc
              generalize cmpB x.1 y.1 = z at *
              clear hge hlt
              go_wp2_with fail
              go_meet
              exact ⟨rfl, L, HZ.out, HS.out⟩
      case rest =>
      obtain ⟨rfl, HC⟩ := hcut
      obtain ⟨L', HO', HS'⟩ := HC.out
      have HO2 := Lib.hid HO'
      have HS2 := Lib.hid HS'
      clear HC HO' HS' HO HS
      have hw1 : IntKind.i64.wrap ((i : Int) + 1) = ((i + 1 : Nat) : Int) := by rw [IntKind.wrap_i64]; omega
      go_wp2_with fail
      go_roundg (N - (k + 1))
      case measure => omega
      case rel => exact ⟨k + 1, i + 1, L', by omega, .inl hk, rfl, by unfold Hid; have := hi.out; omega, by go_num, HO2, HS2⟩
    · obtain ⟨X, e, s1, s2⟩ := HEN.out L k HO.out (by omega)
      have HX : Hid (SS W wr B g c n (P ++ (X ++ S)) ∧ Sd mk X ∧ Stb mk U X) := ⟨by rw [← e]; exact HS.out, s1, s2⟩
      have hge : b ≤ i := by have := hi.out; omega
      have hd : decide ((i : Int) < (b : Int)) = false := by simp; omega
      clear e s1 s2 HO HS hk HEN HIS HIP
      go_wp2_with fail
      go_end0
      exact ⟨rfl, X, HX.out⟩
set_option maxRecDepth 100000 in
set_option maxHeartbeats 2000000 in
theorem insertion_nil (c : Nat) (w : World) : Calls Try.prog 74 #[.slice none 0 c, .int .i64 0, .int .i64 0, .func (.func 70) #[] #[]] w fun e w' => e = .returned (.tuple #[]) ∧ w' = w := by
  go_enter Try.func74, Try.ntmps74
  go_wp2_with fail
  go_loopg [8] 0 (fun gk iv wr => gk = 0 ∧ iv = .int .i64 1 ∧ wr = w)
  case atStart => exact ⟨rfl, rfl, rfl⟩
  case round =>
    obtain ⟨rfl, rfl, rfl⟩ := hrel
    go_wp2_with fail
    go_end0
    exact ⟨rfl, rfl⟩
end St
end Go.Proofs.Ytlabbmfiecbigaa

namespace Go.Proofs.Ytlabbmfiecbigaa
open Go.RowKit
namespace St
open Mem Lx Bu
set_option maxRecDepth 100000 in
set_option maxHeartbeats 8000000 in
theorem symOneL_any {W w : World} {B g c n a m b : Nat} {L P V S : List Mg} {u : Mg} (h : SS W w B g c n L) (hL : L = P ++ ([u] ++ (V ++ S))) (ha : P.length = a) (hm : a + 1 = m) (hb : m + V.length = b) (hV : Sd mk V) (hn : n ≤ 1000) :
    Calls Try.prog 75 #[.slice (some ⟨g, 0, none⟩) n c, .int .i64 (a : Int), .int .i64 (m : Int), .int .i64 (b : Int), .func (.func 70) #[] #[]] w fun e w' => e = .returned (.tuple #[]) ∧ ∃ X, SS W w' B g c n (P ++ (X ++ S)) ∧ Sd mk X ∧ Stb mk ([u] ++ V) X := by
  have hlen : b + S.length = n := by
    have := h.len
    rw [hL] at this
    simp at this
    omega
  have hbn : b ≤ n := by omega
  have hmb : m ≤ b := by omega
  have ham : a < m := by omega
  have hpa : L[a]? = some u := by
    rw [hL, at_first ha (Nat.le_refl _) (by simp), Nat.sub_self]
    rfl
  have HL := Lib.hid hL
  have HSP : Hid (∀ s, m ≤ s → s ≤ b → (s = m ∨ ∃ x, L[s - 1]? = some x ∧ cmpB (mk x) (mk u) < 0) → (s = b ∨ ∃ x, L[s]? = some x ∧ ¬ cmpB (mk x) (mk u) < 0) → ∃ V1 V2, V = V1 ++ V2 ∧ m + V1.length = s ∧ Sd mk (V1 ++ (u :: V2)) ∧ Stb mk ([u] ++ V) (V1 ++ (u :: V2))) := fun s h1 h2 h3 h4 => by
    rw [hL] at h3 h4
    exact one_left ha hm hb h1 h2 h3 h4 hV
  have HA := Lib.hid ha
  have HM := Lib.hid hm
  have HS0 := Lib.hid h
  have HU := Lib.hid hpa
  have hw0 : IntKind.i64.wrap ((m : Int) - (a : Int)) = 1 := by rw [IntKind.wrap_i64]; omega
  clear h hL ha hm hb hlen hpa
  go_enter Try.func75, Try.ntmps75
  go_upto_block 0 with fail
  clear hw0
  go_cut [10] (fun iv wx => ∃ s : Nat, iv = .int .i64 (s : Int) ∧ m ≤ s ∧ s ≤ b ∧ Hid (s = m ∨ ∃ x, L[s - 1]? = some x ∧ cmpB (mk x) (mk u) < 0) ∧ Hid (s = b ∨ ∃ x, L[s]? = some x ∧ ¬ cmpB (mk x) (mk u) < 0) ∧ Hid (SS W wx B g c n L))
  case first =>
    clear HSP
    go_wp2_with fail
    go_loopg [10, 11] (b - m) (fun gk iv jv wr => ∃ i j : Nat, m ≤ i ∧ i ≤ j ∧ j ≤ b ∧ gk = j - i ∧ iv = .int .i64 (i : Int) ∧ jv = .int .i64 (j : Int) ∧ Hid (i = m ∨ ∃ x, L[i - 1]? = some x ∧ cmpB (mk x) (mk u) < 0) ∧ Hid (j = b ∨ ∃ x, L[j]? = some x ∧ ¬ cmpB (mk x) (mk u) < 0) ∧ Hid (SS W wr B g c n L))
    case atStart => exact ⟨m, b, Nat.le_refl _, hmb, Nat.le_refl _, rfl, rfl, rfl, .inl rfl, .inl rfl, HS0⟩
    case round =>
      obtain ⟨i, j, h1, h2, h3, rfl, rfl, rfl, HI, HJ, HS⟩ := hrel
      clear HS0
      by_cases hij : i < j
      · obtain ⟨k, hk⟩ : ∃ k, k = (i + j) / 2 := ⟨_, rfl⟩
        have hk1 : i ≤ k := by omega
        have hk2 : k < j := by omega
        have hkn : k < n := by omega
        have hw1 : IntKind.i64.wrap ((i : Int) + (j : Int)) = (i : Int) + (j : Int) := by rw [IntKind.wrap_i64]; omega
        have hw2 : IntKind.i64.wrap ((k : Int) + 1) = ((k + 1 : Nat) : Int) := by rw [IntKind.wrap_i64]; omega
        have hq : ((i : Int) + (j : Int)) / 2 = (k : Int) := by omega
        have hw3 : IntKind.i64.wrap (k : Int) = (k : Int) := by rw [IntKind.wrap_i64]; omega
        have HQ := Lib.hid hq
        have HK := Lib.hid hk
        clear hk hq
        have hkL : k < L.length := by rw [HS.out.len]; exact hkn
        obtain ⟨x, hx⟩ : ∃ x, x = L[k] := ⟨_, rfl⟩
        have hx' := nat_len hkL
        rw [← hx] at hx'
        obtain ⟨c0, c1, c2⟩ := HS.out.cell hx'
        obtain ⟨d0, d1, d2⟩ := HS.out.cell HU.out
        have HX := Lib.hid hx'
        have cC := fun w => Lib.hid (cmpMsg_any x u w)
        have han : a < n := by omega
        clear hx hx' hkL
        go_upto_region 5 with fail
        rw [HQ.out]
        have x0 := fun t : Drift.Tide [] wr [] => Drift.Tide.cell c0 (by simp) t
        have x1 := fun t : Drift.Tide [] wr [] => Drift.Tide.cell c1 (by simp) t
        have x2 := fun t : Drift.Tide [] wr [] => Drift.Tide.cell c2 (by simp) t
        have y0 := fun t : Drift.Tide [] wr [] => Drift.Tide.cell d0 (by simp) t
        have y1 := fun t : Drift.Tide [] wr [] => Drift.Tide.cell d1 (by simp) t
        have y2 := fun t : Drift.Tide [] wr [] => Drift.Tide.cell d2 (by simp) t
        clear c0 c1 c2 d0 d1 d2
        refine Drift.wp_region_drift [] [(0,[]),(1,[]),(2,[]),(3,[]),(4,[]),(5,[]),(6,[]),(7,[]),(8,[]),(9,[]),(10,[])] [] [] (by kernel_rfl) (by kernel_rfl) (by simp) ?_
        simp only [Drift.pick, Drift.opsAt, List.getElem?_toArray, List.getElem?_cons_zero, List.getElem?_cons_succ, List.cons_append, List.nil_append, List.filterMap_nil]
        repeat (refine Drift.walk_step (fun K hK => ?_); go_simp; first | (refine hK _ ?_; clear hK K) | (apply Exists.intro; refine ⟨fun q => ?_, hK _ ?_⟩; (go_at_call 70; exact (cC _).out); clear hK K))
        refine Drift.walk_nil ?_
        intro w2 hb _
        have HS2 := Lib.hid (HS.out.kept hb)
        clear x0 x1 x2 y0 y1 y2 hb HS cC
        simp only [List.length_cons, List.length_nil, List.drop_succ_cons, List.drop_nil, Nat.zero_add, Nat.reduceAdd]
        by_cases hc : cmpB x.1 u.1 < 0
        · have HI2 : Hid (k + 1 = m ∨ ∃ x, L[k + 1 - 1]? = some x ∧ cmpB (mk x) (mk u) < 0) := .inr ⟨x, HX.out, hc⟩
          generalize cmpB x.1 u.1 = z at *
          go_wp2_with fail
          go_roundg (j - (k + 1))
          case measure => omega
          case rel => exact ⟨k + 1, j, by omega, by omega, h3, rfl, by go_num, rfl, HI2, HJ, HS2⟩
        · have HJ2 : Hid (k = b ∨ ∃ x, L[k]? = some x ∧ ¬ cmpB (mk x) (mk u) < 0) := .inr ⟨x, HX.out, hc⟩
          have hd2 : decide (cmpB x.1 u.1 < 0) = false := by simpa using hc
          generalize cmpB x.1 u.1 = z at *
          go_wp2_with fail
          go_roundg (k - i)
          case measure => omega
          case rel => exact ⟨i, k, h1, hk1, by omega, rfl, rfl, rfl, HI, HJ2, HS2⟩
      · obtain rfl : i = j := by omega
        clear hij
        go_wp2_with fail
        go_meet
        exact ⟨i, rfl, h1, h3, HI, HJ, HS⟩
  case rest =>
  obtain ⟨s, rfl, h1, h2, HI, HJ, HS1⟩ := hcut
  obtain ⟨V1, V2, e1, e2, e3, e4⟩ := HSP.out s h1 h2 HI.out HJ.out
  obtain ⟨e, he⟩ : ∃ e, e = s - 1 := ⟨_, rfl⟩
  have hse : e + 1 = s := by omega
  have hwe : IntKind.i64.wrap ((s : Int) - 1) = (e : Int) := by rw [IntKind.wrap_i64]; omega
  have hae : a ≤ e := by omega
  have hen : e < n := by omega
  have HR0 : Hid (MvR P V1 (V2 ++ S) L u a) := ⟨[], V1, rfl, by rw [HL.out, e1]; simp, by rw [HA.out]; rfl⟩
  have HPE : Hid (P.length + V1.length = e) := by
    have := HA.out
    have := HM.out
    unfold Hid
    omega
  have HX : Hid (Sd mk (V1 ++ (u :: V2)) ∧ Stb mk ([u] ++ V) (V1 ++ (u :: V2))) := ⟨e3, e4⟩
  clear HSP HI HJ HS0 e1 e2 e3 e4 he HL HU hse
  go_wp2_with fail
  go_loopg [13] (e - a) (fun gk kv wr => ∃ (k : Nat) (L : List Mg), a ≤ k ∧ k ≤ e ∧ gk = e - k ∧ kv = .int .i64 (k : Int) ∧ Hid (MvR P V1 (V2 ++ S) L u k) ∧ Hid (SS W wr B g c n L))
  case atStart => exact ⟨a, L, Nat.le_refl _, hae, rfl, rfl, HR0, HS1⟩
  case round =>
    obtain ⟨p, L, g1, g2, rfl, rfl, HR, HS⟩ := hrel
    clear HS1 HR0
    by_cases hpe : p < e
    · obtain ⟨d, hx, hy, hs⟩ := mvR_step HR.out (by rw [HPE.out]; exact hpe)
      obtain ⟨q, hq⟩ : ∃ q, q = p + 1 := ⟨_, rfl⟩
      rw [← hq] at hy hs
      have HR2 := Lib.hid hs
      have hpn := HS.out.ltn hx
      have hqn := HS.out.ltn hy
      have hw1 : IntKind.i64.wrap ((p : Int) + 1) = (q : Int) := by rw [IntKind.wrap_i64]; omega
      have hne : p ≠ q := by omega
      have hne' : q ≠ p := by omega
      have hqe : q ≤ e := by omega
      have hpq : p < q := by omega
      obtain ⟨c0, c1, c2⟩ := HS.out.cell hx
      obtain ⟨d0, d1, d2⟩ := HS.out.cell hy
      have HX := Lib.hid hx
      have HY := Lib.hid hy
      clear hx hy hs hq HR
      go_upto_region 11 with fail
      have x0 := fun t : Drift.Tide [] wr [] => Drift.Tide.cell c0 (by simp) t
      have x1 := fun t : Drift.Tide [] wr [] => Drift.Tide.cell c1 (by simp) t
      have x2 := fun t : Drift.Tide [] wr [] => Drift.Tide.cell c2 (by simp) t
      have y0 := fun t : Drift.Tide [] wr [] => Drift.Tide.cell d0 (by simp) t
      have y1 := fun t : Drift.Tide [] wr [] => Drift.Tide.cell d1 (by simp) t
      have y2 := fun t : Drift.Tide [] wr [] => Drift.Tide.cell d2 (by simp) t
      clear c0 c1 c2 d0 d1 d2
      refine Drift.wp_region_drift_late [] [(0,[]),(1,[]),(2,[]),(3,[]),(4,[]),(5,[]),(6,[]),(7,[]),(8,[]),(9,[]),(10,[]),(11,[]),(12,[]),(13,[])] [] [] [2, 3, 4, 10, 11, 12] (by kernel_rfl) (by kernel_rfl) (by simp) ?_
      simp only [Drift.pick, Drift.opsAt, List.getElem?_toArray, List.getElem?_cons_zero, List.getElem?_cons_succ, List.cons_append, List.nil_append, List.filterMap_nil]
      repeat (refine Drift.walk_step (fun K hK => ?_); go_simp; (refine hK _ ?_; clear hK K))
      refine Drift.walk_clear rfl (.slice (some ⟨g, 0, none⟩) n c) (fun W => by go_simp) ?_
      refine Drift.walk_clear rfl (.int .i64 p) (fun W => by go_simp) ?_
      refine Drift.walk_clear rfl (.int .i64 q) (fun W => by go_simp) ?_
      repeat (refine Drift.walk_step (fun K hK => ?_); go_simp; (refine hK _ ?_; clear hK K))
      refine Drift.walk_clear rfl (.slice (some ⟨g, 0, none⟩) n c) (fun W => by go_simp) ?_
      refine Drift.walk_clear rfl (.int .i64 p) (fun W => by go_simp) ?_
      refine Drift.walk_clear rfl (.pointer (some ⟨g, p * 3, none⟩)) (fun W => by go_simp) ?_
      repeat (refine Drift.walk_step (fun K hK => ?_); go_simp; (refine hK _ ?_; clear hK K))
      refine Drift.walk_nil ?_
      intro w6 hb6 _
      clear x0 x1 x2 y0 y1 y2
      have h6 : SS W w6 B g c n L := HS.out.kept hb6
      have H7 := Lib.hid (h6.swap (x := u) (y := d) (p := p) (q := q) hpn hqn)
      have f := h6.free
      obtain ⟨c0, c1, c2⟩ := h6.cell HX.out
      obtain ⟨d0, d1, d2⟩ := h6.cell HY.out
      clear h6 hb6 HS
      simp only [List.length_cons, List.length_nil, List.drop_succ_cons, List.drop_zero, Nat.zero_add, Nat.reduceAdd]
      go_wp2_with fail
      rw [Flow.Nrm_normal]
      unfold stM at H7
      generalize (((((w6.setCell ⟨g, p * 3, none⟩ (.string d.1)).setCell ⟨g, p * 3 + 1, none⟩ (.bool d.2.1)).setCell ⟨g, p * 3 + 2, none⟩ (.string d.2.2)).setCell ⟨g, q * 3, none⟩ (.string u.1)).setCell ⟨g, q * 3 + 1, none⟩ (.bool u.2.1)).setCell ⟨g, q * 3 + 2, none⟩ (.string u.2.2) = w7 at *
      clear c0 c1 c2 d0 d1 d2 f
      go_wp2_with fail
      go_roundg (e - q)
      case measure => omega
      case rel => exact ⟨q, _, by omega, hqe, rfl, rfl, HR2, H7⟩
    · have HE := Lib.hid (mvR_end HR.out (by rw [HPE.out]; omega))
      obtain rfl : p = e := by omega
      have HF : Hid (SS W wr B g c n (P ++ ((V1 ++ (u :: V2)) ++ S))) := by
        have := HS.out
        rw [HE.out] at this
        simpa [Hid] using this
      clear HE HS HR hpe
      go_wp2_with fail
      exact bodyPost_ret (results_none rfl _ _ _) rfl ⟨rfl, _, HF.out, HX.out⟩
end St
end Go.Proofs.Ytlabbmfiecbigaa
