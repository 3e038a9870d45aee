/-
  A reader of bytes: plain. No program.
-/
import Derived.Test.YteefkhgmcknbaaaWordPlain
namespace Go.Proofs.Yteefkhgmcknbaaa.Wd

/-- a reader: the bytes that are left, and its error -/
structure St where
  b : List UInt8
  e : Int
/-- a spoilt one has no bytes -/
def St.ok (s : St) : Prop := s.e ≠ 0 → s.b = []
def spoilS (s : St) (x : Int) : St := if s.e = 0 then ⟨[], x⟩ else s
def takeS (s : St) (n : Int) : St × List UInt8 :=
  if n < 0 then (spoilS s 2, []) else if (s.b.length : Int) < n then (spoilS s 5, []) else (⟨s.b.drop n.toNat, s.e⟩, s.b.take n.toNat)
def numS (s : St) (n : Int) : St × Nat := if isW n then ((takeS s n).1, val (takeS s n).2) else (spoilS s 2, 0)
def zeroB (l : List UInt8) : Bool := l.all (· == 0)
def zerosS (s : St) (n : Int) : St := if zeroB (takeS s n).2 then (takeS s n).1 else spoilS (takeS s n).1 3
def textS (s : St) (n m : Int) : St × List UInt8 :=
  if n < 0 ∨ m < n then (spoilS s 2, [])
  else if ((takeS s m).2.length : Int) < m then ((takeS s m).1, [])
  else if zeroB ((takeS s m).2.drop n.toNat) then ((takeS s m).1, (takeS s m).2.take n.toNat) else (spoilS (takeS s m).1 3, [])
def endS (s : St) : Int := if s.e = 0 ∧ 0 < s.b.length then 6 else s.e

theorem spoil_ok {s : St} (h : s.ok) (x : Int) : (spoilS s x).ok := by
  unfold spoilS
  split
  · intro _; rfl
  · exact h
/-- a spoilt one stays, and tells nothing -/
theorem take_spoilt {s : St} (h : s.ok) (he : s.e ≠ 0) (n : Int) : takeS s n = (s, []) := by
  obtain ⟨b, e⟩ := s
  have hb : b = [] := h he
  simp only at he
  subst hb
  unfold takeS spoilS
  split
  · simp
  · split
    · simp
    · simp
theorem take_neg (s : St) {n : Int} (h : n < 0) : takeS s n = (spoilS s 2, []) := if_pos h
theorem take_short (s : St) {n : Int} (h0 : ¬ n < 0) (h : (s.b.length : Int) < n) : takeS s n = (spoilS s 5, []) := by unfold takeS; rw [if_neg h0, if_pos h]
theorem take_some (s : St) {n : Int} (h0 : ¬ n < 0) (h : ¬ (s.b.length : Int) < n) : takeS s n = (⟨s.b.drop n.toNat, s.e⟩, s.b.take n.toNat) := by unfold takeS; rw [if_neg h0, if_neg h]
theorem take_ok {s : St} (h : s.ok) (n : Int) : (takeS s n).1.ok := by
  unfold takeS
  split
  · exact spoil_ok h _
  · split
    · exact spoil_ok h _
    · intro he; simp [h he]
theorem take_len (s : St) (n : Int) : ((takeS s n).2.length : Int) ≤ if n < 0 then 0 else n := by
  unfold takeS
  split
  · simp
  · split
    · simp; omega
    · simp; omega
theorem take_len_le (s : St) (n : Int) : (takeS s n).2.length ≤ s.b.length := by
  unfold takeS
  split
  · simp
  · split
    · simp
    · simp; omega
theorem take_rest_le (s : St) (n : Int) : (takeS s n).1.b.length ≤ s.b.length := by
  unfold takeS spoilS
  split
  · split <;> simp
  · split
    · split <;> simp
    · simp
/-- what is told is all that was asked, or the reader is spoilt, and nothing is -/
theorem take_all {s : St} (_ : s.ok) {n : Int} (h0 : 0 ≤ n) (he : (takeS s n).1.e = 0) : ((takeS s n).2.length : Int) = n := by
  unfold takeS spoilS at *
  rw [if_neg (by omega)] at *
  split at he
  · split at he
    · simp at he
    · rename_i h1; exact absurd he h1
  · rename_i h1
    rw [if_neg h1]
    simp; omega
theorem take_none {s : St} {n : Int} (he : (takeS s n).1.e ≠ 0) (h : s.ok) : (takeS s n).2 = [] := by
  unfold takeS spoilS at *
  split at he
  · rename_i h1; rw [if_pos h1]
  · rename_i h1
    rw [if_neg h1]
    split at he
    · rename_i h2; rw [if_pos h2]
    · rename_i h2
      rw [if_neg h2]
      simp only at he ⊢
      rw [h he]; simp
end Go.Proofs.Yteefkhgmcknbaaa.Wd
