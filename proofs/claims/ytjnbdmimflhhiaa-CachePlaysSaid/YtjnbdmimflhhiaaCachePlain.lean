/-
  Layer cache, plain: frames, their row, and what each call makes of them. No program.
-/
import Derived.ProofKit
import Derived.Test.YtjnbdmimflhhiaaChainPlain
namespace Go.Proofs.Ytjnbdmimflhhiaa
namespace Ca
open Cn (del del_notin)

/-- a block's number, its bytes, whether it is dirty, how often it is pinned -/
abbrev Fr := Nat × List UInt8 × Bool × Nat
/-- a cache: the device (a block's length, its blocks, what was read and written), the frames, the row of frames -/
structure St where
  m : Nat
  ls : List (List UInt8)
  r : Nat
  s : Nat
  fr : List (Option Fr)
  row : List Nat

/-- no block is in two frames -/
def Uq (fr : List (Option Fr)) : Prop := ∀ (i j : Nat) (f f' : Fr), fr[i]? = some (some f) → fr[j]? = some (some f') → f.1 = f'.1 → i = j
/-- the frame that a block is in -/
def look : List (Option Fr) → Nat → Option (Nat × Fr)
  | [], _ => none
  | none :: l, b => (look l b).map fun y => (y.1 + 1, y.2)
  | some f :: l, b => if f.1 = b then some (0, f) else (look l b).map fun y => (y.1 + 1, y.2)
theorem look_some {b j : Nat} {f : Fr} : ∀ {fr : List (Option Fr)}, look fr b = some (j, f) → fr[j]? = some (some f) ∧ f.1 = b := by
  intro fr
  induction fr generalizing j with
  | nil => intro h; cases h
  | cons x l ih =>
    intro h
    cases x with
    | none =>
      simp only [look, Option.map_eq_some_iff] at h
      obtain ⟨y, hy, he⟩ := h
      cases he
      simpa using ih hy
    | some g =>
      simp only [look] at h
      split at h
      · rename_i hg
        cases h
        exact ⟨rfl, hg⟩
      · simp only [Option.map_eq_some_iff] at h
        obtain ⟨y, hy, he⟩ := h
        cases he
        simpa using ih hy
theorem look_none {b : Nat} : ∀ {fr : List (Option Fr)}, look fr b = none → ∀ (j : Nat) (f : Fr), fr[j]? = some (some f) → f.1 ≠ b := by
  intro fr
  induction fr with
  | nil => intro _ j f h; simp at h
  | cons x l ih =>
    intro h j f hj
    cases x with
    | none =>
      simp only [look, Option.map_eq_none_iff] at h
      cases j with
      | zero => simp at hj
      | succ j => exact ih h j f (by simpa using hj)
    | some g =>
      simp only [look] at h
      split at h
      · cases h
      · rename_i hg
        simp only [Option.map_eq_none_iff] at h
        cases j with
        | zero =>
          obtain rfl : g = f := by simpa using hj
          exact hg
        | succ j => exact ih h j f (by simpa using hj)
theorem look_at {fr : List (Option Fr)} (hU : Uq fr) {j : Nat} {f : Fr} (h : fr[j]? = some (some f)) : look fr f.1 = some (j, f) := by
  cases hl : look fr f.1 with
  | none => exact absurd rfl (look_none hl j f h)
  | some y =>
    obtain ⟨i, g⟩ := y
    obtain ⟨h1, h2⟩ := look_some hl
    obtain rfl := hU i j g f h1 h h2
    rw [h1] at h
    obtain rfl : g = f := by simpa using h
    rfl
theorem look_none_of {fr : List (Option Fr)} {b : Nat} (h : ∀ (j : Nat) (f : Fr), fr[j]? = some (some f) → f.1 ≠ b) : look fr b = none := by
  cases hl : look fr b with
  | none => rfl
  | some y =>
    obtain ⟨h1, h2⟩ := look_some (j := y.1) (f := y.2) hl
    exact absurd h2 (h _ _ h1)
/-- the place of a block's frame -/
def ix (fr : List (Option Fr)) (b : Nat) : Option Nat := (look fr b).map (·.1)
theorem set_get {α : Type} {l : List α} {i j : Nat} {x : α} : (l.set i x)[j]? = if i = j then (if j < l.length then some x else none) else l[j]? := by
  rw [List.getElem?_set]
  by_cases h : i = j
  · subst h; simp
  · simp [h]
theorem lt_of_get {α : Type} {l : List α} {i : Nat} {x : α} (h : l[i]? = some x) : i < l.length := (List.getElem?_eq_some_iff.1 h).1
theorem uq_set {fr : List (Option Fr)} (hU : Uq fr) {a : Nat} {f : Fr} (ho : ∀ (j : Nat) (g : Fr), fr[j]? = some (some g) → g.1 = f.1 → j = a) : Uq (fr.set a (some f)) := by
  intro i j g g' hi hj e
  rw [set_get] at hi hj
  by_cases h1 : a = i
  · by_cases h2 : a = j
    · omega
    · rw [if_neg h2] at hj
      subst h1
      rw [if_pos rfl] at hi
      split at hi
      · obtain rfl : f = g := by simpa using hi
        exact (ho j g' hj e.symm).symm
      · cases hi
  · rw [if_neg h1] at hi
    by_cases h2 : a = j
    · subst h2
      rw [if_pos rfl] at hj
      split at hj
      · obtain rfl : f = g' := by simpa using hj
        exact ho i g hi e
      · cases hj
    · rw [if_neg h2] at hj
      exact hU i j g g' hi hj e
theorem uq_unset {fr : List (Option Fr)} (hU : Uq fr) (a : Nat) : Uq (fr.set a none) := by
  intro i j g g' hi hj e
  rw [set_get] at hi hj
  by_cases h1 : a = i
  · rw [if_pos h1] at hi; split at hi <;> cases hi
  · by_cases h2 : a = j
    · rw [if_pos h2] at hj; split at hj <;> cases hj
    · rw [if_neg h1] at hi
      rw [if_neg h2] at hj
      exact hU i j g g' hi hj e
theorem ix_at {fr : List (Option Fr)} (hU : Uq fr) {j : Nat} {f : Fr} (h : fr[j]? = some (some f)) : ix fr f.1 = some j := by
  unfold ix; rw [look_at hU h]; rfl
theorem ix_none_of {fr : List (Option Fr)} {b : Nat} (h : ∀ (j : Nat) (f : Fr), fr[j]? = some (some f) → f.1 ≠ b) : ix fr b = none := by
  unfold ix; rw [look_none_of h]; rfl
theorem ix_some {fr : List (Option Fr)} {b j : Nat} (h : ix fr b = some j) : ∃ f : Fr, fr[j]? = some (some f) ∧ f.1 = b := by
  unfold ix at h
  simp only [Option.map_eq_some_iff] at h
  obtain ⟨y, hy, he⟩ := h
  subst he
  exact ⟨y.2, look_some (j := y.1) (f := y.2) hy⟩
theorem ix_none {fr : List (Option Fr)} {b : Nat} (h : ix fr b = none) : ∀ (j : Nat) (f : Fr), fr[j]? = some (some f) → f.1 ≠ b := by
  unfold ix at h
  simp only [Option.map_eq_none_iff] at h
  exact look_none h
theorem ix_set {fr : List (Option Fr)} (hU : Uq fr) {a : Nat} {f : Fr} (ha : a < fr.length) (ho : ∀ (j : Nat) (g : Fr), fr[j]? = some (some g) → g.1 = f.1 → j = a) (hn : ∀ g : Fr, fr[a]? = some (some g) → g.1 = f.1) (x : Nat) :
    ix (fr.set a (some f)) x = if x = f.1 then some a else ix fr x := by
  by_cases hx : x = f.1
  · subst hx
    rw [if_pos rfl]
    exact ix_at (uq_set hU ho) (by rw [set_get, if_pos rfl, if_pos ha])
  · rw [if_neg hx]
    cases h : ix fr x with
    | none =>
      refine ix_none_of fun j g hj => ?_
      rw [set_get] at hj
      by_cases h1 : a = j
      · subst h1
        rw [if_pos rfl, if_pos ha] at hj
        obtain rfl : f = g := by simpa using hj
        exact fun e => hx e.symm
      · rw [if_neg h1] at hj
        exact ix_none h j g hj
    | some j =>
      obtain ⟨g, hg, rfl⟩ := ix_some h
      refine ix_at (uq_set hU ho) ?_
      rw [set_get]
      by_cases h1 : a = j
      · subst h1; exact absurd (hn g hg) hx
      · rw [if_neg h1]; exact hg
theorem ix_unset {fr : List (Option Fr)} (hU : Uq fr) {a : Nat} {f : Fr} (hf : fr[a]? = some (some f)) (x : Nat) : ix (fr.set a none) x = if x = f.1 then none else ix fr x := by
  by_cases hx : x = f.1
  · subst hx
    rw [if_pos rfl]
    refine ix_none_of fun j g hj e => ?_
    rw [set_get] at hj
    by_cases h1 : a = j
    · rw [if_pos h1] at hj; split at hj <;> cases hj
    · rw [if_neg h1] at hj
      exact h1 (hU a j f g hf hj e.symm)
  · rw [if_neg hx]
    cases h : ix fr x with
    | none =>
      refine ix_none_of fun j g hj => ?_
      rw [set_get] at hj
      by_cases h1 : a = j
      · rw [if_pos h1] at hj; split at hj <;> cases hj
      · rw [if_neg h1] at hj
        exact ix_none h j g hj
    | some j =>
      obtain ⟨g, hg, rfl⟩ := ix_some h
      refine ix_at (uq_unset hU a) ?_
      rw [set_get]
      by_cases h1 : a = j
      · subst h1
        rw [hf] at hg
        obtain rfl : f = g := by simpa using hg
        exact absurd rfl hx
      · rw [if_neg h1]; exact hg
/-- how many frames have a block -/
def occ (fr : List (Option Fr)) : Nat := (fr.filterMap id).length
theorem occ_set : ∀ {fr : List (Option Fr)} {a : Nat} {x y : Option Fr}, fr[a]? = some x → occ (fr.set a y) + (if x.isSome then 1 else 0) = occ fr + (if y.isSome then 1 else 0) := by
  intro fr
  induction fr with
  | nil => intro a x y h; simp at h
  | cons z l ih =>
    intro a x y h
    cases a with
    | zero =>
      obtain rfl : z = x := by simpa using h
      cases z <;> cases y <;> simp [occ]
    | succ a =>
      have := @ih a x y (by simpa using h)
      unfold occ at this ⊢
      cases z <;> simp <;> omega
theorem occ_le (fr : List (Option Fr)) : occ fr ≤ fr.length := List.length_filterMap_le _ _

section
variable (st : St)
def pinsP (b : Nat) : Nat := match look st.fr b with
  | some (_, f) => f.2.2.2
  | none => 0
def cleanT (a : Nat) : St := match st.fr[a]? with
  | some (some (b, x, true, p)) => { st with ls := st.ls.set b x, s := st.s + 1, fr := st.fr.set a (some (b, x, false, p)) }
  | _ => st
def emptyT (a : Nat) : St := { st with fr := st.fr.set a none, row := del st.row a ++ [a] }
def fillT (a : Nat) (f : Fr) : St := { st with fr := st.fr.set a (some f), row := del st.row a }
def readT : St := { st with r := st.r + 1 }
def roomT : Option (Nat × St) := match st.row.getLast? with
  | none => none
  | some a => match st.fr[a]? with
    | some (some _) => some (a, emptyT (cleanT st a) a)
    | _ => some (a, st)
def pinT (b : Nat) : Int × St :=
  if b < st.ls.length then
    match look st.fr b with
    | some (j, f) => (0, fillT st j (f.1, f.2.1, f.2.2.1, f.2.2.2 + 1))
    | none => match roomT st with
      | none => (7, st)
      | some (a, t) => (0, fillT (readT t) a (b, (t.ls[b]?).getD [], false, 1))
  else (4, st)
def freshT (b : Nat) : Int × St :=
  if b < st.ls.length then
    if 0 < pinsP st b then (8, st) else
    match look st.fr b with
    | some (j, _) => (0, fillT st j (b, List.replicate st.m 0, true, 1))
    | none => match roomT st with
      | none => (7, st)
      | some (a, t) => (0, fillT t a (b, List.replicate st.m 0, true, 1))
  else (4, st)
def unpinT (b : Nat) : Int × St := match look st.fr b with
  | some (j, f) => if f.2.2.2 = 0 then (8, st) else (0, { st with fr := st.fr.set j (some (f.1, f.2.1, f.2.2.1, f.2.2.2 - 1)), row := if f.2.2.2 = 1 then j :: del st.row j else st.row })
  | none => (8, st)
def readP (b : Nat) : List UInt8 × Int := match look st.fr b with
  | some (_, f) => if f.2.2.2 = 0 then ([], 8) else (f.2.1, 0)
  | none => ([], 8)
def writeT (b : Nat) (y : List UInt8) : Int × St := match look st.fr b with
  | some (j, f) => if f.2.2.2 = 0 then (8, st) else if y.length = f.2.1.length then (0, { st with fr := st.fr.set j (some (f.1, y, true, f.2.2.2)) }) else (3, st)
  | none => (8, st)
def dropT (b : Nat) : Int × St := if 0 < pinsP st b then (8, st) else match look st.fr b with
  | some (j, _) => (0, emptyT st j)
  | none => (0, st)
def dirtyP (b : Nat) : Bool := match look st.fr b with
  | some (_, f) => f.2.2.1
  | none => false
def dirtyL : List Nat := (List.range st.ls.length).filter (dirtyP st)
def cleanB (b : Nat) : St := match look st.fr b with
  | some (j, _) => cleanT st j
  | none => st
def flushT : St := (dirtyL st).foldl cleanB st
def rowL : List Nat := st.row.filterMap fun j => ((st.fr[j]?).getD none).map (·.1)
end

/-- what holds of each cache -/
structure Good (st : St) : Prop where
  n1 : 1 ≤ st.fr.length
  n2 : st.fr.length ≤ 64
  uq : Uq st.fr
  blk : ∀ (j : Nat) (f : Fr), st.fr[j]? = some (some f) → f.1 < st.ls.length ∧ f.2.1.length = st.m
  cl : ∀ (j : Nat) (f : Fr), st.fr[j]? = some (some f) → f.2.2.1 = false → st.ls[f.1]? = some f.2.1
  rw : ∀ j : Nat, j ∈ st.row ↔ j < st.fr.length ∧ ∀ f : Fr, st.fr[j]? = some (some f) → f.2.2.2 = 0
  nd : st.row.Nodup
  sp : ∃ a e, st.row = a ++ e ∧ (∀ j ∈ a, ∃ f : Fr, st.fr[j]? = some (some f)) ∧ ∀ j ∈ e, st.fr[j]? = some none
  lm : ∀ l, l ∈ st.ls → l.length = st.m
  l32 : st.ls.length ≤ 65536
end Ca
end Go.Proofs.Ytjnbdmimflhhiaa
