/-
  Layer cache, plain: what a block reads as. No program.
-/
import Derived.Test.YtjnbdmimflhhiaaCacheSm
namespace Go.Proofs.Ytjnbdmimflhhiaa
namespace Ca
open Cn (del del_notin)

theorem look_set {fr : List (Option Fr)} (hU : Uq fr) {a : Nat} {f : Fr} (ha : a < fr.length) (ho : ∀ (j : Nat) (g : Fr), fr[j]? = some (some g) → g.1 = f.1 → j = a) (hn : ∀ g : Fr, fr[a]? = some (some g) → g.1 = f.1) (x : Nat) :
    look (fr.set a (some f)) x = if x = f.1 then some (a, f) else look fr x := by
  by_cases hx : x = f.1
  · subst hx
    rw [if_pos rfl]
    exact look_at (uq_set hU ho) (by rw [set_get, if_pos rfl, if_pos ha])
  · rw [if_neg hx]
    cases h : look fr x with
    | none =>
      refine look_none_of fun j g hj => ?_
      rw [set_get] at hj
      by_cases h1 : a = j
      · subst h1
        rw [if_pos rfl, if_pos ha] at hj
        obtain rfl : f = g := by simpa using hj
        exact fun e => hx e.symm
      · rw [if_neg h1] at hj
        exact look_none h j g hj
    | some y =>
      obtain ⟨j, g⟩ := y
      obtain ⟨hg, rfl⟩ := look_some h
      refine look_at (uq_set hU ho) ?_
      rw [set_get]
      by_cases h1 : a = j
      · subst h1; exact absurd (hn g hg) hx
      · rw [if_neg h1]; exact hg
theorem look_unset {fr : List (Option Fr)} (hU : Uq fr) {a : Nat} {f : Fr} (hf : fr[a]? = some (some f)) (x : Nat) : look (fr.set a none) x = if x = f.1 then none else look fr x := by
  by_cases hx : x = f.1
  · subst hx
    rw [if_pos rfl]
    refine look_none_of fun j g hj e => ?_
    rw [set_get] at hj
    by_cases h1 : a = j
    · rw [if_pos h1] at hj; split at hj <;> cases hj
    · rw [if_neg h1] at hj
      exact h1 (hU a j f g hf hj e.symm)
  · rw [if_neg hx]
    cases h : look fr x with
    | none =>
      refine look_none_of fun j g hj => ?_
      rw [set_get] at hj
      by_cases h1 : a = j
      · rw [if_pos h1] at hj; split at hj <;> cases hj
      · rw [if_neg h1] at hj
        exact look_none h j g hj
    | some y =>
      obtain ⟨j, g⟩ := y
      obtain ⟨hg, rfl⟩ := look_some h
      refine look_at (uq_unset hU a) ?_
      rw [set_get]
      by_cases h1 : a = j
      · subst h1
        rw [hf] at hg
        obtain rfl : f = g := by simpa using hg
        exact absurd rfl hx
      · rw [if_neg h1]; exact hg
theorem look_mark {fr : List (Option Fr)} (hU : Uq fr) {a : Nat} {f f' : Fr} (hf : fr[a]? = some (some f)) (h1 : f'.1 = f.1) (x : Nat) : look (fr.set a (some f')) x = if x = f.1 then some (a, f') else look fr x := by
  rw [look_set hU (lt_of_get hf) (fun j g hj e => hU j a g f hj hf (e.trans h1)) (fun g hg => by rw [hf] at hg; cases hg; exact h1.symm), h1]
/-- what a block reads as: in its frame, or else on the device -/
def cur (st : St) (i : Nat) : List UInt8 := match look st.fr i with
  | some (_, f) => f.2.1
  | none => (st.ls[i]?).getD []
section
variable {st t : St}
theorem cur_some {i j : Nat} {f : Fr} (h : look st.fr i = some (j, f)) : cur st i = f.2.1 := by unfold cur; rw [h]
theorem cur_none {i : Nat} (h : look st.fr i = none) : cur st i = (st.ls[i]?).getD [] := by unfold cur; rw [h]
theorem cur_clean (h : Good st) (a i : Nat) : cur (cleanT st a) i = cur st i := by
  unfold cleanT
  split
  · rename_i b x p hf
    have hl := look_mark (f' := (b, x, false, p)) h.uq hf rfl i
    unfold cur
    simp only [hl]
    by_cases e : i = b
    · subst e
      rw [if_pos rfl, look_at h.uq hf]
    · rw [if_neg e]
      cases look st.fr i with
      | none => simp only; rw [List.getElem?_set, if_neg (fun e' => e e'.symm)]
      | some y => rfl
  · rfl
theorem cur_empty (h : Good st) {a : Nat} {f : Fr} (hf : st.fr[a]? = some (some f)) (hd : f.2.2.1 = false) (i : Nat) : cur (emptyT st a) i = cur st i := by
  have hl := look_unset h.uq hf i
  unfold emptyT cur
  simp only [hl]
  by_cases e : i = f.1
  · subst e
    rw [if_pos rfl, look_at h.uq hf]
    simp only
    rw [h.cl _ _ hf hd]
    rfl
  · rw [if_neg e]
theorem cur_room (h : Good st) {a : Nat} (hr : roomT st = some (a, t)) (i : Nat) : cur t i = cur st i := by
  unfold roomT at hr
  split at hr
  · cases hr
  · split at hr
    · rename_i f hf
      simp only [Option.some.injEq, Prod.mk.injEq] at hr
      obtain ⟨rfl, rfl⟩ := hr
      obtain ⟨b, x, d, p⟩ := f
      rw [cur_empty (h.clean _) (clean_at hf) rfl, cur_clean h]
    · simp only [Option.some.injEq, Prod.mk.injEq] at hr
      obtain ⟨rfl, rfl⟩ := hr
      rfl
theorem cur_pin (h : Good st) (b i : Nat) : cur (pinT st b).2 i = cur st i := by
  unfold pinT
  split
  · rename_i hb
    split
    · rename_i j f hl
      obtain ⟨hf, rfl⟩ := look_some hl
      have := look_mark (f' := (f.1, f.2.1, f.2.2.1, f.2.2.2 + 1)) h.uq hf rfl i
      unfold fillT cur
      simp only [this]
      by_cases e : i = f.1
      · subst e
        rw [if_pos rfl, hl]
      · rw [if_neg e]
    · rename_i hl
      split
      · rfl
      · rename_i a t hr
        obtain ⟨g1, g2, g3, g4, g5, g6, g7⟩ := room_spec h hr
        have hn := look_none hl
        have hlt : look t.fr b = none := look_none_of fun j g hj => hn j g (g5 j g hj)
        have := look_set (f := (b, (t.ls[b]?).getD [], false, 1)) g1.uq (lt_of_get g2) (fun j g hj e => absurd e (hn j g (g5 j g hj))) (fun g hg => by rw [g2] at hg; cases hg) i
        rw [← cur_room h hr i]
        show cur (fillT (readT t) a (b, (t.ls[b]?).getD [], false, 1)) i = _
        unfold fillT readT cur
        simp only [this]
        by_cases e : i = b
        · subst e
          rw [if_pos rfl, hlt]
        · rw [if_neg e]
  · rfl
theorem cur_fresh (h : Good st) (b i : Nat) : cur (freshT st b).2 i = if (freshT st b).1 = 0 ∧ i = b then List.replicate st.m 0 else cur st i := by
  unfold freshT
  split
  · rename_i hb
    split
    · simp
    · split
      · rename_i j f hl
        obtain ⟨hf, rfl⟩ := look_some hl
        have := look_mark (f' := (f.1, List.replicate st.m 0, true, 1)) h.uq hf rfl i
        unfold fillT
        simp only [true_and]
        unfold cur
        simp only [this]
        by_cases e : i = f.1
        · subst e
          rw [if_pos rfl, if_pos rfl]
        · rw [if_neg e, if_neg e]
      · rename_i hl
        split
        · simp
        · rename_i a t hr
          obtain ⟨g1, g2, g3, g4, g5, g6, g7⟩ := room_spec h hr
          have hn := look_none hl
          have := look_set (f := (b, List.replicate st.m 0, true, 1)) g1.uq (lt_of_get g2) (fun j g hj e => absurd e (hn j g (g5 j g hj))) (fun g hg => by rw [g2] at hg; cases hg) i
          rw [← cur_room h hr i]
          unfold fillT
          simp only [true_and]
          unfold cur
          simp only [this]
          by_cases e : i = b
          · subst e
            rw [if_pos rfl, if_pos rfl]
          · rw [if_neg e, if_neg e]
  · simp
theorem fresh_lt {b : Nat} (h : (freshT st b).1 = 0) : b < st.ls.length := by
  unfold freshT at h
  split at h
  · assumption
  · cases h
theorem cur_unpin (h : Good st) (b i : Nat) : cur (unpinT st b).2 i = cur st i := by
  unfold unpinT
  split
  · rename_i j f hl
    obtain ⟨hf, rfl⟩ := look_some hl
    split
    · rfl
    · have := look_mark (f' := (f.1, f.2.1, f.2.2.1, f.2.2.2 - 1)) h.uq hf rfl i
      unfold cur
      simp only [this]
      by_cases e : i = f.1
      · subst e
        rw [if_pos rfl, hl]
      · rw [if_neg e]
  · rfl
theorem cur_write (h : Good st) (b : Nat) (y : List UInt8) (i : Nat) : cur (writeT st b y).2 i = if (writeT st b y).1 = 0 ∧ i = b then y else cur st i := by
  unfold writeT
  split
  · rename_i j f hl
    obtain ⟨hf, rfl⟩ := look_some hl
    split
    · simp
    · split
      · have := look_mark (f' := (f.1, y, true, f.2.2.2)) h.uq hf rfl i
        simp only [true_and]
        unfold cur
        simp only [this]
        by_cases e : i = f.1
        · subst e
          rw [if_pos rfl, if_pos rfl]
        · rw [if_neg e, if_neg e]
      · simp
  · simp
theorem write_lt (h : Good st) {b : Nat} {y : List UInt8} (hw : (writeT st b y).1 = 0) : b < st.ls.length := by
  unfold writeT at hw
  split at hw
  · rename_i j f hl
    obtain ⟨hf, rfl⟩ := look_some hl
    exact (h.blk _ _ hf).1
  · cases hw
theorem read_cur (h : Good st) {b : Nat} (hr : (readP st b).2 = 0) : (readP st b).1 = cur st b ∧ b < st.ls.length := by
  unfold readP at hr ⊢
  cases hl : look st.fr b with
  | none => rw [hl] at hr; cases hr
  | some y =>
    obtain ⟨j, f⟩ := y
    rw [hl] at hr
    obtain ⟨hf, hb⟩ := look_some hl
    simp only at hr ⊢
    split at hr
    · cases hr
    · rename_i h0
      rw [if_neg h0]
      exact ⟨(cur_some hl).symm, by rw [← hb]; exact (h.blk _ _ hf).1⟩
theorem cur_cleanB (h : Good st) (b i : Nat) : cur (cleanB st b) i = cur st i := by
  unfold cleanB
  split
  · exact cur_clean h _ _
  · rfl
theorem dirty_cleanB (h : Good st) (b i : Nat) : dirtyP (cleanB st b) i = (dirtyP st i && !decide (i = b)) := by
  unfold cleanB
  cases hl : look st.fr b with
  | none =>
    simp only
    unfold dirtyP
    by_cases e : i = b
    · subst e; rw [hl]; rfl
    · simp [e]
  | some y =>
    obtain ⟨a, f⟩ := y
    obtain ⟨hf, rfl⟩ := look_some hl
    obtain ⟨b, x, d, p⟩ := f
    simp only
    unfold cleanT
    rw [hf]
    cases d with
    | true =>
      simp only
      have := look_mark (f' := (b, x, false, p)) h.uq hf rfl i
      unfold dirtyP
      simp only [this]
      by_cases e : i = b
      · subst e; simp
      · simp [e]
    | false =>
      simp only
      by_cases e : i = b
      · subst e
        unfold dirtyP
        rw [hl]
        rfl
      · simp [e]
theorem cleans_cur (l : List Nat) : ∀ {st : St}, Good st → (∀ i, cur (l.foldl cleanB st) i = cur st i) ∧ ∀ i, dirtyP (l.foldl cleanB st) i = (dirtyP st i && !decide (i ∈ l)) := by
  induction l with
  | nil => intro st _; simp
  | cons x r ih =>
    intro st h
    obtain ⟨h1, h2⟩ := ih (h.cleanB x)
    refine ⟨fun i => (h1 i).trans (cur_cleanB h x i), fun i => ?_⟩
    rw [List.foldl_cons, h2 i, dirty_cleanB h x i]
    simp only [List.mem_cons, Bool.decide_or, Bool.not_or, Bool.and_assoc]
theorem dirty_lt (h : Good st) {i : Nat} (hd : dirtyP st i = true) : i < st.ls.length := by
  unfold dirtyP at hd
  cases hl : look st.fr i with
  | none => rw [hl] at hd; cases hd
  | some y =>
    obtain ⟨hf, hb⟩ := look_some (j := y.1) (f := y.2) hl
    rw [← hb]
    exact (h.blk _ _ hf).1
/-- behind a Flush nothing is dirty, and the device has what reads -/
theorem flush_all (h : Good st) : (∀ i, cur (flushT st) i = cur st i) ∧ dirtyL (flushT st) = [] ∧ (flushT st).ls = (List.range st.ls.length).map (cur st) := by
  obtain ⟨h1, h2⟩ := cleans_cur (dirtyL st) h
  have hnd : ∀ i, dirtyP (flushT st) i = false := fun i => by
    have := h2 i
    unfold flushT
    rw [this]
    cases hd : dirtyP st i with
    | false => rfl
    | true =>
      have hm : i ∈ dirtyL st := by
        unfold dirtyL
        rw [List.mem_filter, List.mem_range]
        exact ⟨dirty_lt h hd, hd⟩
      simp [hm]
  have hc : ∀ i, cur (flushT st) i = cur st i := h1
  have hlen : (flushT st).ls.length = st.ls.length := (cost_flush st).ll
  refine ⟨hc, ?_, ?_⟩
  · unfold dirtyL
    rw [List.filter_eq_nil_iff]
    intro i _
    rw [hnd i]
    simp
  · apply List.ext_getElem?
    intro i
    by_cases hi : i < st.ls.length
    · rw [List.getElem?_map, List.getElem?_range hi]
      simp only [Option.map_some]
      rw [← hc i]
      have hi' : i < (flushT st).ls.length := by rw [hlen]; exact hi
      have hgd := h.flush
      cases hl : look (flushT st).fr i with
      | none =>
        rw [cur_none hl, List.getElem?_eq_getElem hi']
        rfl
      | some y =>
        obtain ⟨j, f⟩ := y
        obtain ⟨hf, hb⟩ := look_some hl
        rw [cur_some hl]
        have hdf : f.2.2.1 = false := by
          have := hnd i
          unfold dirtyP at this
          rw [hl] at this
          exact this
        have := hgd.cl _ _ hf hdf
        rw [hb] at this
        exact this
    · rw [List.getElem?_eq_none (by rw [hlen]; omega), List.getElem?_eq_none (by simp; omega)]
/-- the calls, but for Drop -/
theorem cur_step (h : Good st) {k : Int} (hk : k ≠ 7) (b : Nat) (y : List UInt8) (i : Nat) : cur (stepT st k b y).2 i = if (stepT st k b y).1 = 0 ∧ i = b ∧ k = 2 then List.replicate st.m 0 else if (stepT st k b y).1 = 0 ∧ i = b ∧ (k = 5 ∨ k = 6) then y else cur st i := by
  unfold stepT
  by_cases h0 : k = 0 ∨ k = 1
  · simp only [if_pos h0]
    rw [cur_pin h, if_neg (by omega), if_neg (by omega)]
  simp only [if_neg h0]
  by_cases h2 : k = 2
  · simp only [if_pos h2]
    rw [cur_fresh h]
    by_cases e : (freshT st b).1 = 0 ∧ i = b
    · rw [if_pos e, if_pos ⟨e.1, e.2, h2⟩]
    · rw [if_neg e, if_neg (fun e' => e ⟨e'.1, e'.2.1⟩), if_neg (by omega)]
  simp only [if_neg h2]
  by_cases h3 : k = 3 ∨ k = 4
  · simp only [if_pos h3]
    rw [cur_unpin h, if_neg (by omega), if_neg (by omega)]
  simp only [if_neg h3]
  by_cases h5 : k = 5 ∨ k = 6
  · simp only [if_pos h5]
    rw [cur_write h]
    by_cases e : (writeT st b y).1 = 0 ∧ i = b
    · rw [if_pos e, if_neg (fun e' => h2 e'.2.2), if_pos ⟨e.1, e.2, h5⟩]
    · rw [if_neg e, if_neg (fun e' => h2 e'.2.2), if_neg (fun e' => e ⟨e'.1, e'.2.1⟩)]
  simp only [if_neg hk, h2, h5, and_false, if_false]
  by_cases h8 : k = 8
  · simp only [if_pos h8]
    exact (flush_all h).1 i
  simp only [if_neg h8]
  split <;> rfl
/-- a call that is answered OK, and changes what a block reads as, is of a block that there is -/
theorem step_lt (h : Good st) {k : Int} {b : Nat} {y : List UInt8} (hz : (stepT st k b y).1 = 0) (hk : k = 2 ∨ k = 5 ∨ k = 6) : b < st.ls.length := by
  unfold stepT at hz
  rw [if_neg (by omega)] at hz
  by_cases h2 : k = 2
  · rw [if_pos h2] at hz
    exact fresh_lt hz
  rw [if_neg h2, if_neg (by omega), if_pos (by omega)] at hz
  exact write_lt h hz
end
end Ca
end Go.Proofs.Ytjnbdmimflhhiaa
