/-
  Layer cache, plain: what the calls cost. No program.
-/
import Derived.Test.YtjnbdmimflhhiaaCacheGood
namespace Go.Proofs.Ytjnbdmimflhhiaa
namespace Ca
open Cn (del del_notin)

/-- no number is great -/
structure Sm (st : St) (K : Nat) : Prop where
  r : st.r ≤ K
  s : st.s ≤ K
  p : ∀ (j : Nat) (f : Fr), st.fr[j]? = some (some f) → f.2.2.2 ≤ K
theorem Sm.mono {st : St} {K K' : Nat} (h : Sm st K) (hK : K ≤ K') : Sm st K' := ⟨Nat.le_trans h.r hK, Nat.le_trans h.s hK, fun j f hf => Nat.le_trans (h.p j f hf) hK⟩
theorem room_cost (st : St) {a : Nat} {t : St} (hr : roomT st = some (a, t)) : t.r = st.r ∧ st.s ≤ t.s ∧ t.s ≤ st.s + 1 ∧ t.fr.length = st.fr.length ∧ t.ls.length = st.ls.length ∧ t.m = st.m := by
  unfold roomT at hr
  split at hr
  · cases hr
  · split at hr
    · simp only [Option.some.injEq, Prod.mk.injEq] at hr
      obtain ⟨rfl, rfl⟩ := hr
      obtain ⟨c1, c2, c3, c4, c5, c6⟩ := clean_spec st ‹_›
      refine ⟨c3, ?_, c4, by simpa [emptyT] using c6, c2, c1⟩
      show st.s ≤ (cleanT st _).s
      unfold cleanT
      split <;> simp
    · simp only [Option.some.injEq, Prod.mk.injEq] at hr
      obtain ⟨rfl, rfl⟩ := hr
      exact ⟨rfl, Nat.le_refl _, Nat.le_succ _, rfl, rfl, rfl⟩
/-- what a call may cost: R blocks read, S written; nothing else changes its size -/
structure Cost (st t : St) (R S : Nat) : Prop where
  r1 : st.r ≤ t.r
  r2 : t.r ≤ st.r + R
  s1 : st.s ≤ t.s
  s2 : t.s ≤ st.s + S
  fl : t.fr.length = st.fr.length
  ll : t.ls.length = st.ls.length
  m : t.m = st.m
section
variable {st t : St}
theorem Cost.refl (st : St) (R S : Nat) : Cost st st R S := ⟨Nat.le_refl _, Nat.le_add_right _ _, Nat.le_refl _, Nat.le_add_right _ _, rfl, rfl, rfl⟩
theorem cost_pin (st : St) (b : Nat) : Cost st (pinT st b).2 1 1 := by
  unfold pinT
  split
  · split
    · exact ⟨Nat.le_refl _, Nat.le_succ _, Nat.le_refl _, Nat.le_succ _, by simp [fillT], rfl, rfl⟩
    · split
      · exact Cost.refl _ _ _
      · rename_i a t hr
        obtain ⟨c1, c2, c3, c4, c5, c6⟩ := room_cost st hr
        exact ⟨by show st.r ≤ t.r + 1; omega, by show t.r + 1 ≤ st.r + 1; omega, c2, c3, by simpa [fillT, readT] using c4, c5, c6⟩
  · exact Cost.refl _ _ _
theorem cost_fresh (st : St) (b : Nat) : Cost st (freshT st b).2 0 1 := by
  unfold freshT
  split
  · split
    · exact Cost.refl _ _ _
    · split
      · exact ⟨Nat.le_refl _, Nat.le_refl _, Nat.le_refl _, Nat.le_succ _, by simp [fillT], rfl, rfl⟩
      · split
        · exact Cost.refl _ _ _
        · rename_i a t hr
          obtain ⟨c1, c2, c3, c4, c5, c6⟩ := room_cost st hr
          exact ⟨by show st.r ≤ t.r; omega, by show t.r ≤ st.r; omega, c2, c3, by simpa [fillT] using c4, c5, c6⟩
  · exact Cost.refl _ _ _
theorem cost_unpin (st : St) (b : Nat) : Cost st (unpinT st b).2 0 0 := by
  unfold unpinT
  split
  · split
    · exact Cost.refl _ _ _
    · exact ⟨Nat.le_refl _, Nat.le_refl _, Nat.le_refl _, Nat.le_refl _, by simp, rfl, rfl⟩
  · exact Cost.refl _ _ _
theorem cost_write (st : St) (b : Nat) (y : List UInt8) : Cost st (writeT st b y).2 0 0 := by
  unfold writeT
  split
  · split
    · exact Cost.refl _ _ _
    · split
      · exact ⟨Nat.le_refl _, Nat.le_refl _, Nat.le_refl _, Nat.le_refl _, by simp, rfl, rfl⟩
      · exact Cost.refl _ _ _
  · exact Cost.refl _ _ _
theorem cost_drop (st : St) (b : Nat) : Cost st (dropT st b).2 0 0 := by
  unfold dropT
  split
  · exact Cost.refl _ _ _
  · split
    · exact ⟨Nat.le_refl _, Nat.le_refl _, Nat.le_refl _, Nat.le_refl _, by simp [emptyT], rfl, rfl⟩
    · exact Cost.refl _ _ _
theorem Cost.trans {u : St} {R S R' S' : Nat} (h : Cost st t R S) (k : Cost t u R' S') : Cost st u (R + R') (S + S') := by
  obtain ⟨a1, a2, a3, a4, a5, a6, a7⟩ := h
  obtain ⟨b1, b2, b3, b4, b5, b6, b7⟩ := k
  exact ⟨by omega, by omega, by omega, by omega, b5.trans a5, b6.trans a6, b7.trans a7⟩
theorem cost_cleanB (st : St) (b : Nat) : Cost st (cleanB st b) 0 1 := by
  unfold cleanB
  split
  · unfold cleanT
    split
    · exact ⟨Nat.le_refl _, Nat.le_refl _, Nat.le_succ _, Nat.le_refl _, by simp, by simp, rfl⟩
    · exact Cost.refl _ _ _
  · exact Cost.refl _ _ _
theorem cost_cleans (l : List Nat) : ∀ (st : St), Cost st (l.foldl cleanB st) 0 l.length := by
  induction l with
  | nil => exact fun st => Cost.refl _ _ _
  | cons x r ih =>
    intro st
    have := (cost_cleanB st x).trans (ih (cleanB st x))
    rw [Nat.add_comm 1] at this
    exact this
theorem sub_len : ∀ {l l' : List Nat}, l.Nodup → (∀ x, x ∈ l → x ∈ l') → l.length ≤ l'.length := by
  intro l
  induction l with
  | nil => intro l' _ _; exact Nat.zero_le _
  | cons x r ih =>
    intro l' hn hs
    obtain ⟨a, b, rfl⟩ := List.append_of_mem (hs x (by simp))
    rw [List.nodup_cons] at hn
    have := ih (l' := a ++ b) hn.2 fun y hy => by
      have h1 := hs y (List.mem_cons_of_mem _ hy)
      have h2 : y ≠ x := by rintro rfl; exact hn.1 hy
      simp only [List.mem_append, List.mem_cons] at h1 ⊢
      rcases h1 with h1 | h1 | h1
      · exact .inl h1
      · exact absurd h1 h2
      · exact .inr h1
    simp at this ⊢
    omega
theorem dirty_occ (st : St) : (dirtyL st).length ≤ occ st.fr := by
  have : (dirtyL st).length ≤ ((st.fr.filterMap id).map (·.1)).length := sub_len (List.nodup_range.filter _) fun x hx => by
    unfold dirtyL dirtyP at hx
    rw [List.mem_filter] at hx
    cases e : look st.fr x with
    | none => rw [e] at hx; exact absurd hx.2 (by simp)
    | some y =>
      obtain ⟨hf, hb⟩ := look_some (j := y.1) (f := y.2) e
      rw [List.mem_map]
      exact ⟨y.2, by rw [List.mem_filterMap]; exact ⟨some y.2, List.mem_of_getElem? hf, rfl⟩, hb⟩
  simpa [occ] using this
theorem cost_flush (st : St) : Cost st (flushT st) 0 (dirtyL st).length := cost_cleans _ st

theorem Sm.set {K K' : Nat} (h : Sm st K) {a : Nat} {x : Option Fr} (hK : K ≤ K') (hx : ∀ f : Fr, x = some f → f.2.2.2 ≤ K') (r s : Nat) (hr : r ≤ K') (hs : s ≤ K') (ls : List (List UInt8)) (row : List Nat) : Sm { st with ls := ls, r := r, s := s, fr := st.fr.set a x, row := row } K' := by
  refine ⟨hr, hs, fun j f hf => ?_⟩
  have hf' : (st.fr.set a x)[j]? = some (some f) := hf
  rw [List.getElem?_set] at hf'
  split at hf'
  · split at hf'
    · exact hx f (by simpa using hf')
    · cases hf'
  · exact Nat.le_trans (h.p j f hf') hK
theorem Sm.clean {K : Nat} (h : Sm st K) (a : Nat) : Sm (cleanT st a) (K + 1) := by
  unfold cleanT
  split
  · rename_i b x p hf
    have hp : p ≤ K := h.p _ _ hf
    exact h.set (Nat.le_succ _) (fun f e => by
      obtain rfl : (b, x, false, p) = f := by simpa using e
      exact Nat.le_trans hp (Nat.le_succ K)) _ _ (Nat.le_trans h.r (Nat.le_succ _)) (Nat.succ_le_succ h.s) _ _
  · exact h.mono (Nat.le_succ _)
theorem Sm.room {K a : Nat} (h : Sm st K) (hr : roomT st = some (a, t)) : Sm t (K + 1) := by
  unfold roomT at hr
  split at hr
  · cases hr
  · rename_i i hi
    split at hr
    · simp only [Option.some.injEq, Prod.mk.injEq] at hr
      obtain ⟨rfl, rfl⟩ := hr
      have hc := h.clean i
      exact hc.set (a := i) (x := none) (Nat.le_refl _) (fun f e => by cases e) _ _ hc.r hc.s _ _
    · simp only [Option.some.injEq, Prod.mk.injEq] at hr
      obtain ⟨rfl, rfl⟩ := hr
      exact h.mono (Nat.le_succ _)
theorem Sm.pin {K : Nat} (h : Sm st K) (b : Nat) : Sm (pinT st b).2 (K + 2) := by
  unfold pinT
  split
  · split
    · rename_i j f hl
      have hp := h.p j f (look_some hl).1
      exact h.set (by omega) (fun g e => by
        obtain rfl : (f.1, f.2.1, f.2.2.1, f.2.2.2 + 1) = g := by simpa using e
        show f.2.2.2 + 1 ≤ K + 2
        omega) _ _ (Nat.le_trans h.r (by omega)) (Nat.le_trans h.s (by omega)) _ _
    · split
      · exact h.mono (by omega)
      · rename_i a t hr
        have hc := h.room hr
        exact hc.set (a := a) (by omega) (fun g e => by
          obtain rfl : (b, (t.ls[b]?).getD [], false, 1) = g := by simpa using e
          show 1 ≤ K + 2
          omega) _ _ (by have := hc.r; show t.r + 1 ≤ K + 2; omega) (by have := hc.s; show t.s ≤ K + 2; omega) _ _
  · exact h.mono (by omega)
theorem Sm.fresh {K : Nat} (h : Sm st K) (b : Nat) : Sm (freshT st b).2 (K + 2) := by
  unfold freshT
  split
  · split
    · exact h.mono (by omega)
    · split
      · rename_i j f hl
        exact h.set (by omega) (fun g e => by
          obtain rfl : (b, List.replicate st.m 0, true, 1) = g := by simpa using e
          show 1 ≤ K + 2
          omega) _ _ (Nat.le_trans h.r (by omega)) (Nat.le_trans h.s (by omega)) _ _
      · split
        · exact h.mono (by omega)
        · rename_i a t hr
          have hc := h.room hr
          exact hc.set (a := a) (by omega) (fun g e => by
            obtain rfl : (b, List.replicate st.m 0, true, 1) = g := by simpa using e
            show 1 ≤ K + 2
            omega) _ _ (by have := hc.r; omega) (by have := hc.s; omega) _ _
  · exact h.mono (by omega)
theorem Sm.unpin {K : Nat} (h : Sm st K) (b : Nat) : Sm (unpinT st b).2 K := by
  unfold unpinT
  split
  · rename_i j f hl
    have hp := h.p j f (look_some hl).1
    split
    · exact h
    · exact h.set (Nat.le_refl _) (fun g e => by
        obtain rfl : (f.1, f.2.1, f.2.2.1, f.2.2.2 - 1) = g := by simpa using e
        show f.2.2.2 - 1 ≤ K
        omega) _ _ h.r h.s _ _
  · exact h
theorem Sm.write {K : Nat} (h : Sm st K) (b : Nat) (y : List UInt8) : Sm (writeT st b y).2 K := by
  unfold writeT
  split
  · rename_i j f hl
    have hp := h.p j f (look_some hl).1
    split
    · exact h
    · split
      · exact h.set (Nat.le_refl _) (fun g e => by
          obtain rfl : (f.1, y, true, f.2.2.2) = g := by simpa using e
          exact hp) _ _ h.r h.s _ _
      · exact h
  · exact h
theorem Sm.drop {K : Nat} (h : Sm st K) (b : Nat) : Sm (dropT st b).2 K := by
  unfold dropT
  split
  · exact h
  · split
    · exact h.set (x := none) (Nat.le_refl _) (fun g e => by cases e) _ _ h.r h.s _ _
    · exact h
theorem Sm.cleans (l : List Nat) : ∀ {st : St} {K : Nat}, Sm st K → Sm (l.foldl cleanB st) (K + l.length) := by
  induction l with
  | nil => exact fun h => h
  | cons x r ih =>
    intro st K h
    have h1 : Sm (cleanB st x) (K + 1) := by
      unfold cleanB
      split
      · exact h.clean _
      · exact h.mono (Nat.le_succ _)
    have := ih h1
    simp only [List.foldl_cons, List.length_cons]
    exact this.mono (by omega)
theorem Sm.flush {K : Nat} (h : Sm st K) : Sm (flushT st) (K + (dirtyL st).length) := Sm.cleans _ h
end
/-- a call, by its kind -/
def stepT (st : St) (k : Int) (b : Nat) (y : List UInt8) : Int × St :=
  if k = 0 ∨ k = 1 then pinT st b else if k = 2 then freshT st b else if k = 3 ∨ k = 4 then unpinT st b else if k = 5 ∨ k = 6 then writeT st b y
  else if k = 7 then dropT st b else if k = 8 then (0, flushT st) else if k = 9 then ((readP st b).2, st) else (0, st)
theorem Sm.step {st : St} {K : Nat} (h : Sm st K) (hl : st.ls.length ≤ 12) (k : Int) (b : Nat) (y : List UInt8) : Sm (stepT st k b y).2 (K + 12) := by
  unfold stepT
  split
  · exact (h.pin b).mono (by omega)
  split
  · exact (h.fresh b).mono (by omega)
  split
  · exact (h.unpin b).mono (by omega)
  split
  · exact (h.write b y).mono (by omega)
  split
  · exact (h.drop b).mono (by omega)
  split
  · have : (dirtyL st).length ≤ (List.range st.ls.length).length := List.length_filter_le _ _
    rw [List.length_range] at this
    exact h.flush.mono (by omega)
  split
  · exact h.mono (by omega)
  · exact h.mono (by omega)
theorem Good.step {st : St} (h : Good st) (k : Int) (b : Nat) (y : List UInt8) : Good (stepT st k b y).2 := by
  unfold stepT
  split
  · exact h.pin b
  split
  · exact h.fresh b
  split
  · exact h.unpin b
  split
  · exact h.write b y
  split
  · exact h.drop b
  split
  · exact h.flush
  split
  · exact h
  · exact h
end Ca
end Go.Proofs.Ytjnbdmimflhhiaa
