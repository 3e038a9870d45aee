/-
  Layer cache, plain: what holds of each cache holds behind each call. No program.
-/
import Derived.Test.YtjnbdmimflhhiaaCachePlain
namespace Go.Proofs.Ytjnbdmimflhhiaa
namespace Ca
open Cn (del del_notin)

theorem mem_del {l : List Nat} {a j : Nat} : j ∈ del l a ↔ j ∈ l ∧ j ≠ a := by simp [del]
theorem del_app (l l' : List Nat) (a : Nat) : del (l ++ l') a = del l a ++ del l' a := by simp [del]
theorem del_nd {l : List Nat} (h : l.Nodup) (a : Nat) : (del l a).Nodup := h.filter _
section
variable {st : St}
theorem set_ne {α : Type} {l : List α} {a j : Nat} {x : α} (h : j ≠ a) : (l.set a x)[j]? = l[j]? := by
  rw [List.getElem?_set, if_neg (fun e => h e.symm)]
theorem set_eq {α : Type} {l : List α} {a : Nat} {x y : α} (h : l[a]? = some y) : (l.set a x)[a]? = some x := by
  rw [List.getElem?_set, if_pos rfl, if_pos (lt_of_get h)]
theorem set_len {ls : List (List UInt8)} {m b : Nat} {x : List UInt8} (h : ∀ l, l ∈ ls → l.length = m) (hx : x.length = m) : ∀ l, l ∈ ls.set b x → l.length = m := fun l hl => by
  rcases List.mem_or_eq_of_mem_set hl with h' | rfl
  · exact h l h'
  · exact hx
/-- a frame's block stays, its marks or its bytes are others -/
theorem Good.alter (h : Good st) {a : Nat} {f f' : Fr} (hf : st.fr[a]? = some (some f)) (h1 : f'.1 = f.1) (h2 : f'.2.1.length = st.m) (hp : f'.2.2.2 = 0 ↔ f.2.2.2 = 0) {ls' : List (List UInt8)} (hl : ls'.length = st.ls.length) (hlm : ∀ l, l ∈ ls' → l.length = st.m)
    (hc : f'.2.2.1 = false → ls'[f'.1]? = some f'.2.1) (hc2 : ∀ (j : Nat) (g : Fr), j ≠ a → st.fr[j]? = some (some g) → g.2.2.1 = false → ls'[g.1]? = some g.2.1) (r s : Nat) : Good { st with ls := ls', r := r, s := s, fr := st.fr.set a (some f') } := by
  have hg : ∀ (j : Nat) (g : Fr), (st.fr.set a (some f'))[j]? = some (some g) → (j = a ∧ g = f') ∨ (j ≠ a ∧ st.fr[j]? = some (some g)) := fun j g hj => by
    by_cases e : j = a
    · subst e
      rw [set_eq hf] at hj
      exact .inl ⟨rfl, by simpa using hj.symm⟩
    · rw [set_ne e] at hj
      exact .inr ⟨e, hj⟩
  refine ⟨by simpa using h.n1, by simpa using h.n2, uq_set h.uq fun j g hj e => ?_, fun j g hj => ?_, fun j g hj hd => ?_, fun j => ?_, h.nd, ?_, hlm, by rw [hl]; exact h.l32⟩
  · exact h.uq j a g f hj hf (e.trans h1)
  · show g.1 < ls'.length ∧ _
    rw [hl]
    rcases hg j g hj with ⟨rfl, rfl⟩ | ⟨_, hj⟩
    · exact ⟨by rw [h1]; exact (h.blk _ _ hf).1, h2⟩
    · exact h.blk j g hj
  · rcases hg j g hj with ⟨rfl, rfl⟩ | ⟨e, hj⟩
    · exact hc hd
    · exact hc2 j g e hj hd
  · show j ∈ st.row ↔ j < (st.fr.set a (some f')).length ∧ _
    rw [h.rw j, List.length_set]
    refine and_congr_right fun hj => ⟨fun hh g hg' => ?_, fun hh g hg' => ?_⟩
    · rcases hg j g hg' with ⟨rfl, rfl⟩ | ⟨_, hj'⟩
      · exact hp.2 (hh f hf)
      · exact hh g hj'
    · by_cases e : j = a
      · subst e
        rw [hf] at hg'
        obtain rfl : f = g := by simpa using hg'
        exact hp.1 (hh f' (set_eq hf))
      · exact hh g (by rw [set_ne e]; exact hg')
  · obtain ⟨x, y, e, hx, hy⟩ := h.sp
    refine ⟨x, y, e, fun j hj => ?_, fun j hj => ?_⟩
    · obtain ⟨g, hg'⟩ := hx j hj
      by_cases ej : j = a
      · subst ej; exact ⟨f', set_eq hf⟩
      · exact ⟨g, by rw [set_ne ej]; exact hg'⟩
    · have hn := hy j hj
      have ej : j ≠ a := by rintro rfl; rw [hf] at hn; cases hn
      show (st.fr.set a (some f'))[j]? = _
      rw [set_ne ej]; exact hn
theorem Good.clean (h : Good st) (a : Nat) : Good (cleanT st a) := by
  unfold cleanT
  split
  · rename_i b x p hf
    obtain ⟨hb, hx⟩ := h.blk _ _ hf
    refine h.alter (f' := (b, x, false, p)) hf rfl hx Iff.rfl (by simp) (set_len h.lm hx) (fun _ => ?_) (fun j g e hj hd => ?_) _ _
    · rw [List.getElem?_set, if_pos rfl, if_pos hb]
    · have hne : g.1 ≠ b := fun e' => e (h.uq j a g _ hj hf e')
      rw [set_ne hne]
      exact h.cl j g hj hd
  · exact h
theorem Good.fill (h : Good st) {a : Nat} {y : Option Fr} (hy : st.fr[a]? = some y) {f : Fr} (h1 : f.1 < st.ls.length) (h2 : f.2.1.length = st.m) (h3 : 0 < f.2.2.2) (hc : f.2.2.1 = false → st.ls[f.1]? = some f.2.1) (ho : ∀ (j : Nat) (g : Fr), st.fr[j]? = some (some g) → g.1 = f.1 → j = a) : Good (fillT st a f) := by
  have hg : ∀ (j : Nat) (g : Fr), (st.fr.set a (some f))[j]? = some (some g) → (j = a ∧ g = f) ∨ (j ≠ a ∧ st.fr[j]? = some (some g)) := fun j g hj => by
    by_cases e : j = a
    · subst e
      rw [set_eq hy] at hj
      exact .inl ⟨rfl, by simpa using hj.symm⟩
    · rw [set_ne e] at hj
      exact .inr ⟨e, hj⟩
  unfold fillT
  refine ⟨by simpa using h.n1, by simpa using h.n2, uq_set h.uq ho, fun j g hj => ?_, fun j g hj hd => ?_, fun j => ?_, del_nd h.nd a, ?_, h.lm, h.l32⟩
  · rcases hg j g hj with ⟨rfl, rfl⟩ | ⟨_, hj⟩
    · exact ⟨h1, h2⟩
    · exact h.blk j g hj
  · rcases hg j g hj with ⟨rfl, rfl⟩ | ⟨e, hj⟩
    · exact hc hd
    · exact h.cl j g hj hd
  · show j ∈ del st.row a ↔ j < (st.fr.set a (some f)).length ∧ _
    rw [mem_del, h.rw j, List.length_set]
    refine ⟨fun ⟨⟨hj, hh⟩, hne⟩ => ⟨hj, fun g hg' => ?_⟩, fun ⟨hj, hh⟩ => ?_⟩
    · rcases hg j g hg' with ⟨e, _⟩ | ⟨_, hj'⟩
      · exact absurd e hne
      · exact hh g hj'
    · have hne : j ≠ a := by
        rintro rfl
        have := hh f (set_eq hy)
        omega
      exact ⟨⟨hj, fun g hg' => hh g (by rw [set_ne hne]; exact hg')⟩, hne⟩
  · obtain ⟨x, z, e, hx, hz⟩ := h.sp
    refine ⟨del x a, del z a, by rw [e, del_app], fun j hj => ?_, fun j hj => ?_⟩
    · obtain ⟨hj, hne⟩ := mem_del.1 hj
      obtain ⟨g, hg'⟩ := hx j hj
      exact ⟨g, by rw [set_ne hne]; exact hg'⟩
    · obtain ⟨hj, hne⟩ := mem_del.1 hj
      show (st.fr.set a (some f))[j]? = _
      rw [set_ne hne]; exact hz j hj
theorem Good.empty (h : Good st) {a : Nat} {f : Fr} (hf : st.fr[a]? = some (some f)) : Good (emptyT st a) := by
  have hg : ∀ (j : Nat) (g : Fr), (st.fr.set a none)[j]? = some (some g) → j ≠ a ∧ st.fr[j]? = some (some g) := fun j g hj => by
    by_cases e : j = a
    · subst e
      rw [set_eq hf] at hj
      cases hj
    · rw [set_ne e] at hj
      exact ⟨e, hj⟩
  unfold emptyT
  refine ⟨by simpa using h.n1, by simpa using h.n2, uq_unset h.uq a, fun j g hj => h.blk j g (hg j g hj).2, fun j g hj hd => h.cl j g (hg j g hj).2 hd, fun j => ?_, ?_, ?_, h.lm, h.l32⟩
  · show j ∈ del st.row a ++ [a] ↔ j < (st.fr.set a none).length ∧ _
    rw [List.mem_append, List.mem_singleton, mem_del, h.rw j, List.length_set]
    refine ⟨fun hh => ?_, fun ⟨hj, hh⟩ => ?_⟩
    · rcases hh with ⟨⟨hj, hh⟩, hne⟩ | rfl
      · exact ⟨hj, fun g hg' => hh g (hg j g hg').2⟩
      · exact ⟨lt_of_get hf, fun g hg' => absurd rfl (hg j g hg').1⟩
    · by_cases e : j = a
      · exact .inr e
      · exact .inl ⟨⟨hj, fun g hg' => hh g (by rw [set_ne e]; exact hg')⟩, e⟩
  · refine List.nodup_append.2 ⟨del_nd h.nd a, by simp, fun x hx y hy e => ?_⟩
    obtain rfl : y = a := by simpa using hy
    exact (mem_del.1 hx).2 e
  · obtain ⟨x, z, e, hx, hz⟩ := h.sp
    refine ⟨del x a, del z a ++ [a], by rw [e, del_app, List.append_assoc], fun j hj => ?_, fun j hj => ?_⟩
    · obtain ⟨hj, hne⟩ := mem_del.1 hj
      obtain ⟨g, hg'⟩ := hx j hj
      exact ⟨g, by rw [set_ne hne]; exact hg'⟩
    · show (st.fr.set a none)[j]? = _
      rcases List.mem_append.1 hj with hj | hj
      · obtain ⟨hj, hne⟩ := mem_del.1 hj
        rw [set_ne hne]; exact hz j hj
      · obtain rfl : j = a := by simpa using hj
        exact set_eq hf
theorem Good.read (h : Good st) : Good (readT st) := ⟨h.n1, h.n2, h.uq, h.blk, h.cl, h.rw, h.nd, h.sp, h.lm, h.l32⟩
/-- clean leaves all frames, but for one mark -/
theorem clean_spec (st : St) (a : Nat) : (cleanT st a).m = st.m ∧ (cleanT st a).ls.length = st.ls.length ∧ (cleanT st a).r = st.r ∧ (cleanT st a).s ≤ st.s + 1 ∧ (cleanT st a).row = st.row ∧ (cleanT st a).fr.length = st.fr.length := by
  unfold cleanT
  split <;> simp
theorem clean_other {a j : Nat} (h : j ≠ a) : (cleanT st a).fr[j]? = st.fr[j]? := by
  unfold cleanT
  split
  · exact set_ne h
  · rfl
theorem clean_at {a b p : Nat} {x : List UInt8} {d : Bool} (hf : st.fr[a]? = some (some (b, x, d, p))) : (cleanT st a).fr[a]? = some (some (b, x, false, p)) := by
  unfold cleanT
  rw [hf]
  cases d with
  | true => exact set_eq hf
  | false => exact hf
/-- room, where there is some -/
theorem room_spec (h : Good st) {a : Nat} {t : St} (hr : roomT st = some (a, t)) : Good t ∧ t.fr[a]? = some none ∧ t.m = st.m ∧ t.ls.length = st.ls.length ∧ (∀ (j : Nat) (g : Fr), t.fr[j]? = some (some g) → st.fr[j]? = some (some g)) ∧ t.r = st.r ∧ t.s ≤ st.s + 1 := by
  unfold roomT at hr
  split at hr
  · cases hr
  · rename_i i hi
    have hm : i ∈ st.row := List.mem_of_getLast? hi
    split at hr
    · rename_i f hf
      simp only [Option.some.injEq, Prod.mk.injEq] at hr
      obtain ⟨rfl, rfl⟩ := hr
      obtain ⟨b, x, d, p⟩ := f
      have hc := clean_at hf
      obtain ⟨c1, c2, c3, c4, c5, c6⟩ := clean_spec st i
      refine ⟨(h.clean i).empty hc, set_eq hc, c1, c2, fun j g hj => ?_, c3, c4⟩
      by_cases e : j = i
      · subst e
        have : (emptyT (cleanT st j) j).fr[j]? = some none := set_eq hc
        rw [this] at hj; cases hj
      · have : (emptyT (cleanT st i) i).fr[j]? = (cleanT st i).fr[j]? := set_ne e
        rw [this, clean_other e] at hj
        exact hj
    · rename_i hf
      simp only [Option.some.injEq, Prod.mk.injEq] at hr
      obtain ⟨rfl, rfl⟩ := hr
      refine ⟨h, ?_, rfl, rfl, fun _ _ hj => hj, rfl, Nat.le_succ _⟩
      have hlt := ((h.rw i).1 hm).1
      cases e : st.fr[i]? with
      | none => rw [List.getElem?_eq_none_iff] at e; omega
      | some y =>
        cases y with
        | none => rfl
        | some f => exact absurd e (hf f)
theorem Good.pin (h : Good st) (b : Nat) : Good (pinT st b).2 := by
  unfold pinT
  split
  · rename_i hb
    split
    · rename_i j f hl
      obtain ⟨hf, he⟩ := look_some hl
      obtain ⟨k1, k2⟩ := h.blk _ _ hf
      exact h.fill hf k1 k2 (by simp) (fun hd => by have := h.cl _ _ hf; exact this hd) (fun i g hi e => h.uq i j g f hi hf e)
    · rename_i hl
      have hn := look_none hl
      split
      · exact h
      · rename_i a t hr
        obtain ⟨g1, g2, g3, g4, g5, g6, g7⟩ := room_spec h hr
        have hbt : b < t.ls.length := by rw [g4]; exact hb
        have hx : t.ls[b]? = some (t.ls[b]) := List.getElem?_eq_getElem hbt
        refine Good.fill g1.read g2 hbt ?_ (by simp) (fun _ => ?_) (fun i g hi e => absurd e (hn i g (g5 i g hi)))
        · show ((t.ls[b]?).getD []).length = t.m
          rw [hx]
          exact g1.lm _ (List.getElem_mem hbt)
        · show t.ls[b]? = some ((t.ls[b]?).getD [])
          rw [hx]; rfl
  · exact h
theorem Good.fresh (h : Good st) (b : Nat) : Good (freshT st b).2 := by
  unfold freshT
  split
  · rename_i hb
    split
    · exact h
    · split
      · rename_i j f hl
        obtain ⟨hf, he⟩ := look_some hl
        exact h.fill hf hb (by simp) (by simp) (fun hd => by cases hd) (fun i g hi e => h.uq i j g f hi hf (e.trans he.symm))
      · rename_i hl
        have hn := look_none hl
        split
        · exact h
        · rename_i a t hr
          obtain ⟨g1, g2, g3, g4, g5, g6, g7⟩ := room_spec h hr
          exact g1.fill g2 (by rw [g4]; exact hb) (by simp [g3]) (by simp) (fun hd => by cases hd) (fun i g hi e => absurd e (hn i g (g5 i g hi)))
  · exact h
theorem Good.unpin (h : Good st) (b : Nat) : Good (unpinT st b).2 := by
  unfold unpinT
  split
  · rename_i j f hl
    obtain ⟨hf, he⟩ := look_some hl
    obtain ⟨b', x, d, p⟩ := f
    split
    · exact h
    · rename_i hp
      simp only at hp ⊢
      by_cases hp1 : p = 1
      · subst hp1
        simp only [if_true]
        have hg : ∀ (i : Nat) (g : Fr), (st.fr.set j (some (b', x, d, 1 - 1)))[i]? = some (some g) → (i = j ∧ g = (b', x, d, 0)) ∨ (i ≠ j ∧ st.fr[i]? = some (some g)) := fun i g hi => by
          by_cases e : i = j
          · subst e
            rw [set_eq hf] at hi
            exact .inl ⟨rfl, by simpa using hi.symm⟩
          · rw [set_ne e] at hi
            exact .inr ⟨e, hi⟩
        refine ⟨by simpa using h.n1, by simpa using h.n2, uq_set h.uq fun i g hi e => h.uq i j g _ hi hf e, fun i g hi => ?_, fun i g hi hd => ?_, fun i => ?_, ?_, ?_, h.lm, h.l32⟩
        · rcases hg i g hi with ⟨rfl, rfl⟩ | ⟨_, hi⟩
          · have := h.blk _ _ hf
            exact this
          · exact h.blk i g hi
        · rcases hg i g hi with ⟨rfl, rfl⟩ | ⟨_, hi⟩
          · have := h.cl _ _ hf
            exact this hd
          · exact h.cl i g hi hd
        · show i ∈ j :: del st.row j ↔ i < (st.fr.set j _).length ∧ _
          rw [List.mem_cons, mem_del, h.rw i, List.length_set]
          refine ⟨fun hh => ?_, fun ⟨hi, hh⟩ => ?_⟩
          · rcases hh with rfl | ⟨⟨hi, hh⟩, hne⟩
            · refine ⟨lt_of_get hf, fun g hg' => ?_⟩
              rcases hg i g hg' with ⟨_, rfl⟩ | ⟨e, _⟩
              · rfl
              · exact absurd rfl e
            · refine ⟨hi, fun g hg' => ?_⟩
              rcases hg i g hg' with ⟨e, _⟩ | ⟨_, hi'⟩
              · exact absurd e hne
              · exact hh g hi'
          · by_cases e : i = j
            · exact .inl e
            · exact .inr ⟨⟨hi, fun g hg' => hh g (by rw [set_ne e]; exact hg')⟩, e⟩
        · exact List.nodup_cons.2 ⟨del_notin _ _, del_nd h.nd j⟩
        · obtain ⟨y, z, e, hy, hz⟩ := h.sp
          refine ⟨j :: del y j, del z j, by rw [e, del_app]; rfl, fun i hi => ?_, fun i hi => ?_⟩
          · rcases List.mem_cons.1 hi with rfl | hi
            · exact ⟨_, set_eq hf⟩
            · obtain ⟨hi, hne⟩ := mem_del.1 hi
              obtain ⟨g, hg'⟩ := hy i hi
              exact ⟨g, by rw [set_ne hne]; exact hg'⟩
          · obtain ⟨hi, hne⟩ := mem_del.1 hi
            show (st.fr.set j _)[i]? = _
            rw [set_ne hne]; exact hz i hi
      · simp only [if_neg hp1]
        exact h.alter (f' := (b', x, d, p - 1)) hf rfl (h.blk _ _ hf).2 (by simp; omega) rfl h.lm (fun hd => by have := h.cl _ _ hf; exact this hd) (fun i g _ hi hd => h.cl i g hi hd) _ _
  · exact h
theorem Good.write (h : Good st) (b : Nat) (y : List UInt8) : Good (writeT st b y).2 := by
  unfold writeT
  split
  · rename_i j f hl
    obtain ⟨hf, he⟩ := look_some hl
    split
    · exact h
    · split
      · rename_i hy
        exact h.alter (f' := (f.1, y, true, f.2.2.2)) hf rfl (hy.trans (h.blk _ _ hf).2) Iff.rfl rfl h.lm (fun hd => by cases hd) (fun i g _ hi hd => h.cl i g hi hd) _ _
      · exact h
  · exact h
theorem Good.drop (h : Good st) (b : Nat) : Good (dropT st b).2 := by
  unfold dropT
  split
  · exact h
  · split
    · rename_i j f hl
      exact h.empty (look_some hl).1
    · exact h
theorem Good.cleanB (h : Good st) (b : Nat) : Good (cleanB st b) := by
  unfold Ca.cleanB
  split
  · exact h.clean _
  · exact h
theorem Good.cleans (l : List Nat) : ∀ {st : St}, Good st → Good (l.foldl Ca.cleanB st) := by
  induction l with
  | nil => exact fun h => h
  | cons x r ih => exact fun h => ih (h.cleanB x)
theorem Good.flush (h : Good st) : Good (flushT st) := Good.cleans _ h
end
end Ca
end Go.Proofs.Ytjnbdmimflhhiaa
