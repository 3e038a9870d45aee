/-
  A struct of three cells in a box; Booleans of propositions. No program.
-/
import Derived.Test.YteefkhgmcknbaaaRowK
import Derived.Test.YteefkhgmcknbaaaDrift
namespace Go.Proofs.Yteefkhgmcknbaaa
open Go.RowKit
namespace Bu
open Mem
theorem ba_toList {a b : ByteArray} : (a.toList == b.toList) = decide (a = b) := by
  by_cases h : a = b
  · subst h; simp
  · have : a.toList ≠ b.toList := fun e => h (by
      rw [ByteArray.toList_eq, ByteArray.toList_eq] at e
      obtain ⟨⟨x⟩⟩ := a
      obtain ⟨⟨y⟩⟩ := b
      simp at e
      rw [e])
    rw [decide_eq_false h]
    simpa using this
theorem retB {a b : Bool} (h : a = b) : Ending.returned (.bool a) = .returned (.bool b) := by rw [h]
theorem box3 {w : World} {b : Nat} {v0 v1 v2 : Value} {U : TypeId} (h : w.heap[b]? = some (.cells #[v0, v1, v2] U (0, 0))) : w.cell? ⟨b, 0, none⟩ = some v0 ∧ w.cell? ⟨b, 1, none⟩ = some v1 ∧ w.cell? ⟨b, 2, none⟩ = some v2 := by
  simp [World.cell?, h]
theorem free3 {w : World} {b : Nat} {C : Array Value} {U : TypeId} (h : w.heap[b]? = some (.cells C U (0, 0))) (i : Nat) : w.frozen? ⟨b, i, none⟩ = false := by
  simp [World.frozen?, h]
/-- three cells stored -/
def set3 (w : World) (b : Nat) (v0 v1 v2 : Value) : World := ((w.setCell ⟨b, 0, none⟩ v0).setCell ⟨b, 1, none⟩ v1).setCell ⟨b, 2, none⟩ v2
theorem set3_at {w : World} {b : Nat} {u0 u1 u2 : Value} {U : TypeId} (h : w.heap[b]? = some (.cells #[u0, u1, u2] U (0, 0))) (v0 v1 v2 : Value) : (set3 w b v0 v1 v2).heap[b]? = some (.cells #[v0, v1, v2] U (0, 0)) := by
  unfold set3
  simp [World.setCell, Array.getElem?_modify, h]
theorem set3_below {B b : Nat} {a w : World} (h : Below B a w) (hb : B ≤ b) (v0 v1 v2 : Value) : Below B a (set3 w b v0 v1 v2) := ((h.setCell hb v0).setCell hb v1).setCell hb v2
theorem kept3 {w w' : World} {b : Nat} {o : Obj} (h : w.heap[b]? = some o) (hb : Below w.heap.size w w') : w'.heap[b]? = some o := (hb.block b (Array.getElem?_eq_some_iff.1 h).1).trans h
theorem bel3 {W w w' : World} (h : Below W.heap.size W w) (hb : Below w.heap.size w w') : Below W.heap.size W w' := h.trans (hb.mono h.size)
theorem bool_of (p : Prop) : ∃ r : Bool, r = true ↔ p := ⟨@decide p (Classical.propDecidable p), by simp⟩
theorem bool_one {v r : Bool} {p : Prop} (h : v = true ↔ p) (k : r = true ↔ p) : v = r := by
  cases v <;> cases r <;> simp_all
/-- two blocks laid one behind the other -/
theorem two_new (W : World) (X Y : Obj) : ((W.alloc X).alloc Y).heap[W.heap.size]? = some X ∧ ((W.alloc X).alloc Y).heap[W.heap.size + 1]? = some Y ∧ Below W.heap.size W ((W.alloc X).alloc Y) := by
  have hb : Below W.heap.size W (W.alloc X) := (Below.refl _ _).alloc (Nat.le_refl _) _
  have hb2 : Below (W.alloc X).heap.size (W.alloc X) ((W.alloc X).alloc Y) := (Below.refl _ _).alloc (Nat.le_refl _) _
  refine ⟨kept3 (heap_alloc_new W X) hb2, ?_, hb.trans (hb2.mono hb.size)⟩
  have := heap_alloc_new (W.alloc X) Y
  simpa using this
theorem set_box0 {w : World} {b : Nat} {u0 u1 u2 : Value} {U : TypeId} (h : w.heap[b]? = some (.cells #[u0, u1, u2] U (0, 0))) (v : Value) : (w.setCell ⟨b, 0, none⟩ v).heap[b]? = some (.cells #[v, u1, u2] U (0, 0)) := by
  simp [World.setCell, Array.getElem?_modify, h]
theorem set_box1 {w : World} {b : Nat} {u0 u1 u2 : Value} {U : TypeId} (h : w.heap[b]? = some (.cells #[u0, u1, u2] U (0, 0))) (v : Value) : (w.setCell ⟨b, 1, none⟩ v).heap[b]? = some (.cells #[u0, v, u2] U (0, 0)) := by
  simp [World.setCell, Array.getElem?_modify, h]
theorem set_box2 {w : World} {b : Nat} {u0 u1 u2 : Value} {U : TypeId} (h : w.heap[b]? = some (.cells #[u0, u1, u2] U (0, 0))) (v : Value) : (w.setCell ⟨b, 2, none⟩ v).heap[b]? = some (.cells #[u0, u1, v] U (0, 0)) := by
  simp [World.setCell, Array.getElem?_modify, h]
theorem set_other {w : World} {b k : Nat} {i : Nat} (v : Value) (hk : k ≠ b) : (w.setCell ⟨b, i, none⟩ v).heap[k]? = w.heap[k]? := Below.heap_setCell _ _ _ _ hk
end Bu
end Go.Proofs.Yteefkhgmcknbaaa
