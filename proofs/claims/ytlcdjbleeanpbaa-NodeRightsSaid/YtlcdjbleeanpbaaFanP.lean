/-
  Pivots: which rise, a key's way, a kid's span (no memory).
-/
import Derived.Test.YtlcdjbleeanpbaaStrK
import Derived.Test.YtlcdjbleeanpbaaSpanD
namespace Go.Proofs.Ytlcdjbleeanpbaa
namespace Fa
open Lx Bu
/-- texts rise strictly -/
abbrev SRi (L : List ByteArray) : Prop := L.Pairwise fun a b => cmpB a b < 0
def SRise (L : List ByteArray) : Prop := ∀ (i : Nat) (a b : ByteArray), L[i]? = some a → L[i + 1]? = some b → cmpB a b < 0
theorem srise_iff {L : List ByteArray} : SRise L ↔ SRi L := by
  constructor
  · intro h
    induction L with
    | nil => exact .nil
    | cons x xs ih =>
      have ih := ih fun i a b ha hb => h (i + 1) a b (by simpa using ha) (by simpa using hb)
      refine List.pairwise_cons.2 ⟨?_, ih⟩
      cases xs with
      | nil => intro a ha; cases ha
      | cons y ys =>
        have h0 := h 0 x y rfl rfl
        intro a ha
        rcases List.mem_cons.1 ha with rfl | ha
        · exact h0
        · exact cmpB_trans h0 ((List.pairwise_cons.1 ih).1 a ha)
  · intro h i a b ha hb
    obtain ⟨h1, e1⟩ := List.getElem?_eq_some_iff.1 ha
    obtain ⟨h2, e2⟩ := List.getElem?_eq_some_iff.1 hb
    subst e1 e2
    exact List.pairwise_iff_getElem.1 h i (i + 1) h1 h2 (by omega)
theorem SRi.at_ {L : List ByteArray} (h : SRi L) {i j : Nat} {x y : ByteArray} (hx : L[i]? = some x) (hy : L[j]? = some y) (hij : i < j) : cmpB x y < 0 := by
  obtain ⟨h1, e1⟩ := List.getElem?_eq_some_iff.1 hx
  obtain ⟨h2, e2⟩ := List.getElem?_eq_some_iff.1 hy
  subst e1 e2
  exact List.pairwise_iff_getElem.1 h i j h1 h2 hij
/-- a key's way: how many are not behind it -/
def wayS (L : List ByteArray) (key : ByteArray) : Nat := (L.filter fun p => decide (cmpB p key ≤ 0)).length
theorem wayS_le (L : List ByteArray) (key : ByteArray) : wayS L key ≤ L.length := List.length_filter_le _ _
theorem wayS_next {L : List ByteArray} {key : ByteArray} {k : Nat} {x : ByteArray} (hx : L[k]? = some x) : wayS (L.take (k + 1)) key = wayS (L.take k) key + if cmpB x key ≤ 0 then 1 else 0 := by
  have hk := (List.getElem?_eq_some_iff.1 hx).1
  have e : L[k] = x := (List.getElem?_eq_some_iff.1 hx).2
  unfold wayS
  rw [List.take_succ_eq_append_getElem hk, List.filter_append, List.length_append, e]
  by_cases h : cmpB x key ≤ 0 <;> simp [h]
/-- those ahead of the way are not behind the key, the others are -/
theorem SRi.way : ∀ {L : List ByteArray} {key : ByteArray}, SRi L → (∀ (i : Nat) (p : ByteArray), i < wayS L key → L[i]? = some p → cmpB p key ≤ 0) ∧ (∀ (i : Nat) (p : ByteArray), wayS L key ≤ i → L[i]? = some p → 0 < cmpB p key)
  | [], key, _ => ⟨fun i p _ h => by simp at h, fun i p _ h => by simp at h⟩
  | x :: xs, key, h => by
    obtain ⟨h1, h2⟩ := List.pairwise_cons.1 h
    obtain ⟨i1, i2⟩ := SRi.way (key := key) h2
    by_cases hx : cmpB x key ≤ 0
    · have e : wayS (x :: xs) key = wayS xs key + 1 := by simp [wayS, hx]
      rw [e]
      refine ⟨fun i p hi hp => ?_, fun i p hi hp => ?_⟩
      · cases i with
        | zero =>
          obtain rfl : x = p := by simpa using hp
          exact hx
        | succ i => exact i1 i p (by omega) (by simpa using hp)
      · cases i with
        | zero => omega
        | succ i => exact i2 i p (by omega) (by simpa using hp)
    · have hall : ∀ p, p ∈ xs → 0 < cmpB p key := fun p hp => by
        rcases Int.lt_or_le 0 (cmpB p key) with h3 | h3
        · exact h3
        · have h4 := h1 p hp
          have h5 : cmpB x key < 0 := by
            rcases cmpB_tri p key with h6 | h6 | h6
            · exact cmpB_trans h4 h6
            · rw [← h6]; exact h4
            · have := cmpB_neg p key
              omega
          omega
      have e0 : wayS xs key = 0 := by
        unfold wayS
        rw [List.filter_eq_nil_iff.2 fun p hp => by
          have := hall p hp
          simp
          omega]
        rfl
      have e : wayS (x :: xs) key = 0 := by
        have : wayS (x :: xs) key = wayS xs key := by simp [wayS, hx]
        rw [this, e0]
      rw [e]
      refine ⟨fun i p hi => by omega, fun i p _ hp => ?_⟩
      cases i with
      | zero =>
        obtain rfl : x = p := by simpa using hp
        omega
      | succ i => exact hall p (List.mem_of_getElem? (by simpa using hp))
/-- which pivots are right for a span -/
def RightS (L : List ByteArray) (lo hi : ByteArray) (top : Bool) : Prop := (∀ p, p ∈ L → inB lo hi top p = true ∧ p ≠ lo) ∧ SRise L
/-- a kid's span: its front -/
def loS (L : List ByteArray) (i : Nat) (lo : ByteArray) : ByteArray :=
  match i with
  | 0 => lo
  | i + 1 => match L[i]? with
    | some p => if 0 < cmpB p lo then p else lo
    | none => lo
/-- its end, and whether there is none -/
def hiS (L : List ByteArray) (i : Nat) (hi : ByteArray) (top : Bool) : ByteArray × Bool :=
  match L[i]? with
  | some p => if top = true ∨ cmpB p hi < 0 then (p, false) else (hi, top)
  | none => (hi, top)
def spanS (L : List ByteArray) (i : Int) (lo hi : ByteArray) (top : Bool) : (ByteArray × ByteArray × Bool) × Bool :=
  if i < 0 ∨ (L.length : Int) < i then ((⟨#[]⟩, ⟨#[]⟩, false), false) else
    let a := loS L i.toNat lo
    let b := hiS L i.toNat hi top
    let e := if b.2 = true then ⟨#[]⟩ else b.1
    if emptyB a e b.2 = true then ((⟨#[]⟩, ⟨#[]⟩, false), false) else ((a, e, b.2), true)
theorem emptyB_end (a : ByteArray) (b : ByteArray × Bool) : emptyB a (if b.2 = true then ⟨#[]⟩ else b.1) b.2 = emptyB a b.1 b.2 := by
  obtain ⟨e, t⟩ := b
  cases t <;> simp [emptyB]
theorem inB_end (a : ByteArray) (b : ByteArray × Bool) (key : ByteArray) : inB a (if b.2 = true then ⟨#[]⟩ else b.1) b.2 key = inB a b.1 b.2 key := by
  obtain ⟨e, t⟩ := b
  cases t <;> simp [inB]
theorem le_lt {a b c : ByteArray} (h : cmpB a b ≤ 0) (k : cmpB b c < 0) : cmpB a c < 0 := by
  rcases cmpB_tri a b with h1 | h1 | h1
  · exact cmpB_trans h1 k
  · rw [h1]; exact k
  · have := cmpB_neg a b
    omega
theorem lt_le {a b c : ByteArray} (h : cmpB a b < 0) (k : cmpB b c ≤ 0) : cmpB a c < 0 := by
  rcases cmpB_tri b c with h1 | h1 | h1
  · exact cmpB_trans h h1
  · rw [← h1]; exact h
  · have := cmpB_neg b c
    omega
theorem le_le {a b c : ByteArray} (h : cmpB a b ≤ 0) (k : cmpB b c ≤ 0) : cmpB a c ≤ 0 := by
  rcases cmpB_tri a b with h1 | h1 | h1
  · have := lt_le h1 k
    omega
  · rw [h1]; exact k
  · have := cmpB_neg a b
    omega
theorem loS_some {L : List ByteArray} {i : Nat} {p : ByteArray} (hp : L[i]? = some p) (lo : ByteArray) : loS L (i + 1) lo = if 0 < cmpB p lo then p else lo := by
  unfold loS
  simp only [hp]
theorem loS_none {L : List ByteArray} {i : Nat} (hp : L[i]? = none) (lo : ByteArray) : loS L (i + 1) lo = lo := by
  unfold loS
  simp only [hp]
theorem hiS_some {L : List ByteArray} {i : Nat} {p : ByteArray} (hp : L[i]? = some p) (hi : ByteArray) (top : Bool) : hiS L i hi top = if top = true ∨ cmpB p hi < 0 then (p, false) else (hi, top) := by
  unfold hiS
  simp only [hp]
theorem hiS_none {L : List ByteArray} {i : Nat} (hp : L[i]? = none) (hi : ByteArray) (top : Bool) : hiS L i hi top = (hi, top) := by
  unfold hiS
  simp only [hp]
theorem loS_le (L : List ByteArray) (i : Nat) (lo key : ByteArray) : cmpB (loS L i lo) key ≤ 0 ↔ cmpB lo key ≤ 0 ∧ ∀ p, 0 < i → L[i - 1]? = some p → cmpB p key ≤ 0 := by
  cases i with
  | zero => simp [loS]
  | succ i =>
    rw [Nat.add_sub_cancel]
    cases hp : L[i]? with
    | none =>
      rw [loS_none hp]
      simp
    | some p =>
      rw [loS_some hp]
      by_cases h : 0 < cmpB p lo
      · rw [if_pos h]
        have h2 : cmpB lo p ≤ 0 := by have := cmpB_neg lo p; omega
        constructor
        · intro h3
          refine ⟨le_le h2 h3, fun q _ hq => ?_⟩
          cases hq
          exact h3
        · exact fun h3 => h3.2 p (by omega) rfl
      · rw [if_neg h]
        constructor
        · intro h3
          refine ⟨h3, fun q _ hq => ?_⟩
          cases hq
          exact le_le (by omega) h3
        · exact fun h3 => h3.1
theorem hiS_lt (L : List ByteArray) (i : Nat) (hi : ByteArray) (top : Bool) (key : ByteArray) : ((hiS L i hi top).2 = true ∨ cmpB key (hiS L i hi top).1 < 0) ↔ (top = true ∨ cmpB key hi < 0) ∧ ∀ p, L[i]? = some p → cmpB key p < 0 := by
  cases hp : L[i]? with
  | none =>
    rw [hiS_none hp]
    simp
  | some p =>
    rw [hiS_some hp]
    by_cases h : top = true ∨ cmpB p hi < 0
    · rw [if_pos h]
      constructor
      · rintro (h3 | h3)
        · cases h3
        · refine ⟨?_, fun q hq => ?_⟩
          · rcases h with h | h
            · exact .inl h
            · exact .inr (cmpB_trans h3 h)
          · cases hq
            exact h3
      · exact fun h3 => .inr (h3.2 p rfl)
    · rw [if_neg h]
      constructor
      · intro h3
        refine ⟨h3, fun q hq => ?_⟩
        cases hq
        rcases h3 with h3 | h3
        · exact absurd (.inl h3) h
        · have h4 : ¬ cmpB p hi < 0 := fun h5 => h (.inr h5)
          have h6 := cmpB_neg p hi
          exact lt_le (b := hi) h3 (by omega)
      · exact fun h3 => h3.1
theorem inB_iff {lo hi : ByteArray} {top : Bool} {key : ByteArray} : inB lo hi top key = true ↔ cmpB lo key ≤ 0 ∧ (top = true ∨ cmpB key hi < 0) := by
  cases top <;> simp [inB]
theorem in_of_empty {lo hi : ByteArray} {top : Bool} {key : ByteArray} (h : emptyB lo hi top = true) : inB lo hi top key = false := by
  cases hq : inB lo hi top key with
  | false => rfl
  | true =>
    obtain ⟨h1, h2⟩ := inB_iff.1 hq
    have h3 : top = false ∧ cmpB hi lo ≤ 0 := by simpa [emptyB] using h
    rcases h2 with h2 | h2
    · rw [h3.1] at h2; cases h2
    · have := lt_le h2 h3.2
      have := cmpB_neg lo key
      omega
/-- whose way it is -/
theorem SRi.way_is {L : List ByteArray} (h : SRi L) (key : ByteArray) (i : Nat) (hi : i ≤ L.length) : ((∀ p, 0 < i → L[i - 1]? = some p → cmpB p key ≤ 0) ∧ ∀ p, L[i]? = some p → cmpB key p < 0) ↔ i = wayS L key := by
  obtain ⟨w1, w2⟩ := h.way (key := key)
  have hw := wayS_le L key
  constructor
  · rintro ⟨h1, h2⟩
    rcases Nat.lt_trichotomy i (wayS L key) with h3 | h3 | h3
    · exfalso
      have h4 := nat_lenS (L := L) (i := i) (by omega)
      have := w1 i _ h3 h4
      have := h2 _ h4
      have := cmpB_neg key L[i]
      omega
    · exact h3
    · exfalso
      have h4 := nat_lenS (L := L) (i := i - 1) (by omega)
      have := w2 (i - 1) _ (by omega) h4
      have := h1 _ (by omega) h4
      omega
  · rintro rfl
    refine ⟨fun p h1 hp => w1 _ p (by omega) hp, fun p hp => ?_⟩
    have := w2 _ p (Nat.le_refl _) hp
    have := cmpB_neg key p
    omega
/-- each key of the span is in the span of just one kid, its way -/
theorem spanS_one {L : List ByteArray} (h : SRi L) (i : Nat) (hi : i ≤ L.length) (lo hi' : ByteArray) (top : Bool) (key : ByteArray) :
    ((spanS L i lo hi' top).2 && inB (spanS L i lo hi' top).1.1 (spanS L i lo hi' top).1.2.1 (spanS L i lo hi' top).1.2.2 key) = (decide (i = wayS L key) && inB lo hi' top key) := by
  have hn : ¬ ((i : Int) < 0 ∨ (L.length : Int) < (i : Int)) := by omega
  have hin : inB (loS L i lo) (hiS L i hi' top).1 (hiS L i hi' top).2 key = (decide (i = wayS L key) && inB lo hi' top key) := by
    rw [Bool.eq_iff_iff, inB_iff, loS_le, hiS_lt, Bool.and_eq_true, decide_eq_true_iff, inB_iff, ← h.way_is key i hi]
    constructor
    · rintro ⟨⟨h1, h2⟩, h3, h4⟩
      exact ⟨⟨h2, h4⟩, h1, h3⟩
    · rintro ⟨⟨h2, h4⟩, h1, h3⟩
      exact ⟨⟨h1, h2⟩, h3, h4⟩
  unfold spanS
  rw [if_neg hn]
  simp only [Int.toNat_natCast, emptyB_end]
  split
  · rename_i he
    rw [← hin, in_of_empty he]
    rfl
  · simp only [Bool.true_and]
    rw [inB_end, hin]
theorem spanS_all {L : List ByteArray} {lo hi' : ByteArray} {top : Bool} (h : RightS L lo hi' top) (he : emptyB lo hi' top = false) (i : Nat) (hi : i ≤ L.length) : (spanS L i lo hi' top).2 = true := by
  have hn : ¬ ((i : Int) < 0 ∨ (L.length : Int) < (i : Int)) := by omega
  have hri := srise_iff.1 h.2
  have hlt : ∀ p, p ∈ L → cmpB lo p < 0 ∧ (top = true ∨ cmpB p hi' < 0) := fun p hp => by
    obtain ⟨h1, h2⟩ := h.1 p hp
    obtain ⟨h3, h4⟩ := inB_iff.1 h1
    refine ⟨?_, h4⟩
    rcases cmpB_tri lo p with h5 | h5 | h5
    · exact h5
    · exact absurd h5.symm h2
    · have := cmpB_neg lo p
      omega
  have hem : emptyB (loS L i lo) (hiS L i hi' top).1 (hiS L i hi' top).2 = false := by
    have key : (hiS L i hi' top).2 = true ∨ cmpB (loS L i lo) (hiS L i hi' top).1 < 0 := by
      rw [hiS_lt]
      have hlo : loS L i lo = lo ∨ ∃ p, 0 < i ∧ L[i - 1]? = some p ∧ loS L i lo = p := by
        cases i with
        | zero => exact .inl rfl
        | succ i =>
          rw [Nat.add_sub_cancel]
          cases hp : L[i]? with
          | none => exact .inl (loS_none hp lo)
          | some p =>
            rw [loS_some hp]
            by_cases h5 : 0 < cmpB p lo
            · rw [if_pos h5]
              exact .inr ⟨p, by omega, rfl, rfl⟩
            · rw [if_neg h5]
              exact .inl rfl
      rcases hlo with hlo | ⟨p, hi0, hp, hlo⟩
      · rw [hlo]
        refine ⟨?_, fun q hq => (hlt q (List.mem_of_getElem? hq)).1⟩
        cases top with
        | true => exact .inl rfl
        | false =>
          right
          have : 0 < cmpB hi' lo := by simpa [emptyB] using he
          have := cmpB_neg lo hi'
          omega
      · rw [hlo]
        exact ⟨(hlt p (List.mem_of_getElem? hp)).2, fun q hq => hri.at_ hp hq (by omega)⟩
    have hneg := cmpB_neg (loS L i lo) (hiS L i hi' top).1
    cases ht : (hiS L i hi' top).2 with
    | true => simp [emptyB]
    | false =>
      rcases key with key | key
      · rw [ht] at key; cases key
      · simp [emptyB]
        omega
  unfold spanS
  rw [if_neg hn]
  simp only [Int.toNat_natCast, emptyB_end, hem]
  rfl
end Fa
end Go.Proofs.Ytlcdjbleeanpbaa
