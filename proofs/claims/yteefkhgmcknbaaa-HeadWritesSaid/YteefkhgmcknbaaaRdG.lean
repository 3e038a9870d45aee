/-
  A reader behind stores into blocks that are not its own.
-/
import Derived.Test.YteefkhgmcknbaaaWordRead
namespace Go.Proofs.Yteefkhgmcknbaaa
open Go.RowKit
namespace No
open Mem
open Wd (St Only Rd)
section
variable {w w' : World} {q b : Nat} {s : St}
theorem rd_fill (hr : Rd 73 w q s) (ho : Flow.Into [b] w w') (hb : b ≠ q) {C : Array Value} {T : TypeId} {f : Nat × Nat} (hx : w.heap[b]? = some (.cells C T f)) (hT : T ≠ 5) : Rd 73 w' q s := by
  have hlt := hr.lt
  obtain ⟨A1, c1, h1, h2, h3, h4, h5⟩ := hr
  have hk : ∀ a, A1 = some a → 0 < s.b.length → w'.heap[a.block]? = w.heap[a.block]? := fun a ha hl => by
    obtain ⟨C', hC⟩ := h2.2 hl a ha
    refine ho.block _ (Array.getElem?_eq_some_iff.1 hC).1 fun e => ?_
    simp only [List.mem_singleton] at e
    rw [e, hx] at hC
    simp only [Option.some.injEq, Obj.cells.injEq] at hC
    exact hT hC.2.1
  refine ⟨A1, c1, (ho.block q hlt (by simp only [List.mem_singleton]; exact fun e => hb e.symm)).trans h1, ⟨⟨h2.1.1.keep fun hl a ha => hk a ha hl, h2.1.2⟩, fun hl a ha => ?_⟩, h3, h4, h5⟩
  obtain ⟨C', hC⟩ := h2.2 hl a ha
  exact ⟨C', (hk a ha hl).trans hC⟩
theorem rd_at (hr : Rd 73 w q s) : ∃ X : Array Value, w.heap[q]? = some (.cells X 73 (0, 0)) := by
  obtain ⟨A1, c1, h1, -⟩ := hr
  exact ⟨_, h1⟩
theorem rd_ne (hr : Rd 73 w q s) {C : Array Value} {T : TypeId} (hx : w.heap[b]? = some (.cells C T (0, 0))) (hT : T ≠ 73) : b ≠ q := fun e => by
  obtain ⟨X, h1⟩ := rd_at hr
  subst e
  rw [hx] at h1
  simp only [Option.some.injEq, Obj.cells.injEq] at h1
  exact hT h1.2.1
theorem box_only {C : Array Value} {T : TypeId} (hx : w.heap[b]? = some (.cells C T (0, 0))) (ho : Flow.Into [q] w w') (hb : b ≠ q) : w'.heap[b]? = some (.cells C T (0, 0)) :=
  (ho.block b (Array.getElem?_eq_some_iff.1 hx).1 (by simpa using hb)).trans hx
end
end No
end Go.Proofs.Yteefkhgmcknbaaa
