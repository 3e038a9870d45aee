/-
  Bytes of the own of a call; one byte stored.
-/
import Derived.Test.YteefkhgmcknbaaaProg
import Derived.Test.YteefkhgmcknbaaaBytes
import Derived.Test.YteefkhgmcknbaaaBox3
import Derived.Test.YteefkhgmcknbaaaDrift
namespace Go.Proofs.Yteefkhgmcknbaaa
open Go.RowKit
namespace No
open Mem Bu
/-- bytes of the call's own: the slice reads as s, and its block may be written -/
structure FrB (w : World) (B : Nat) (A : Option Addr) (s : List UInt8) : Prop where
  bl : BL w A s
  own : 0 < s.length → ∃ (g o : Nat) (C : Array Value), A = some ⟨g, o, none⟩ ∧ B ≤ g ∧ w.heap[g]? = some (.cells C 5 (0, 0))
theorem FrB.kept {w w' : World} {B : Nat} {A : Option Addr} {s : List UInt8} (h : FrB w B A s) (hb : Below w.heap.size w w') : FrB w' B A s := ⟨h.bl.below hb, fun h0 => by
  obtain ⟨g, o, C, e, h1, h2⟩ := h.own h0
  exact ⟨g, o, C, e, h1, kept3 h2 hb⟩⟩
/-- one byte stored -/
theorem bl_set {w : World} {g o k : Nat} {C : Array Value} {U : TypeId} {s : List UInt8} (h : BL w (some ⟨g, o, none⟩) s) (hx : w.heap[g]? = some (.cells C U (0, 0))) (hk : k < s.length) (y : UInt8) : BL (w.setCell ⟨g, o + k, none⟩ (.int .u8 (y.toNat : Int))) (some ⟨g, o, none⟩) (s.set k y) := fun h0 => by
  rw [List.length_set] at h0
  obtain ⟨b', o', e, hc⟩ := h h0
  cases e
  refine ⟨g, o, rfl, fun i hi => ?_⟩
  rw [List.length_set] at hi
  have h1 := hc i hi
  have h2 := hc k hk
  simp only [World.cell?, hx, Option.isSome_none, Bool.false_eq_true, if_false] at h1 h2
  have hcs : o + k < C.size := (Array.getElem?_eq_some_iff.1 h2).1
  simp only [World.cell?, World.setCell, Array.getElem?_modify, hx, if_true, Option.map_some, Option.isSome_none, Bool.false_eq_true, if_false]
  by_cases e : i = k
  · subst e
    simp [byteV, hcs]
  · rw [Array.getElem?_setIfInBounds_ne (by omega), h1]
    rw [List.getElem_set_ne (by omega)]
theorem FrB.mono {w : World} {B B' : Nat} {A : Option Addr} {s : List UInt8} (h : FrB w B A s) (hb : B' ≤ B) : FrB w B' A s := ⟨h.bl, fun h0 => by
  obtain ⟨g, o, C, e, h1, h2⟩ := h.own h0
  exact ⟨g, o, C, e, Nat.le_trans hb h1, h2⟩⟩
theorem FrB.none_ (w : World) (B : Nat) (A : Option Addr) : FrB w B A [] := ⟨BL.nil _ _, fun h => absurd h (by simp)⟩
end No
end Go.Proofs.Yteefkhgmcknbaaa
