/-
  A map of the call's own from ints to bools: just the ints of a list are in it, each true.
-/
import Derived.Test.YtlcdjbleeanpbaaChecked
import Derived.Test.YtlcdjbleeanpbaaFlow
import Derived.Maps.OwnSet
import Derived.Maps.OwnOps
namespace Go.Proofs.Ytlcdjbleeanpbaa
open Go.RowKit Go.Maps
namespace IMap

theorem keyed : Keyed Try.prog 3 := int_keyed Try.underlying3
theorem zeroB (w : World) : (zeroValue 4).run Try.prog w = .ok (.bool false) w := by kernel_rfl
/-- an int as a key -/
def kl (i : Int) : Lit := .int .i64 i
def Fits (i : Int) : Prop := -9223372036854775808 ≤ i ∧ i ≤ 9223372036854775807
/-- block m is a map of j entries at most: just the ints of ks, each true -/
structure MI (w : World) (m j : Nat) (ks : List Int) : Prop where
  own : ∃ D : DataW Unit, w.ownsMap Try.prog 3 (plainElem Try.prog 4) m j D ∧ ∀ i, D.atKey (kl i) (.lit (.bool false)) = .lit (.bool (ks.contains i))
section
variable {w w' : World} {m j : Nat} {ks : List Int}
theorem MI.keep (h : MI w m j ks) (hk : w'.heap[m]? = w.heap[m]?) : MI w' m j ks := by
  obtain ⟨D, ⟨es, clock, hb, hr⟩, h2⟩ := h.own
  exact ⟨D, ⟨es, clock, hk.trans hb, hr⟩, h2⟩
theorem MI.lt (h : MI w m j ks) : m < w.heap.size := by
  obtain ⟨D, h1, _⟩ := h.own
  exact h1.lt
theorem MI.obj (h : MI w m j ks) : ∃ es clock, w.heap[m]? = some (.map es clock) := by
  obtain ⟨D, ⟨es, clock, hb, _⟩, _⟩ := h.own
  exact ⟨es, clock, hb⟩
theorem MI.made (w : World) : MI (w.alloc (.map #[] 0)) w.heap.size 0 [] :=
  ⟨.map [], World.ownsMap_made w _ _ _, fun _ => rfl⟩
theorem plainElem_bool_inv {P : Program} {e : TypeId} (he : P.underlying e = some .bool) {v : Value} {z : DataW Unit × List MemPlace} (h : plainElem P e v = some z) : ∃ x, v = .bool x ∧ z.1 = .lit (.bool x) := by
  unfold plainElem at h
  rw [he] at h
  cases v <;> simp at h
  exact ⟨_, rfl, by rw [← h]⟩
theorem kl_key {i : Int} (hi : Fits i) : keyOf Try.prog 3 (.int .i64 i) = some (kl i) :=
  keyOf_int_mk Try.underlying3 (by
    have h1 : IntKind.i64.min = -9223372036854775808 := rfl
    have h2 : IntKind.i64.max = 9223372036854775807 := rfl
    obtain ⟨h3, h4⟩ := hi
    simp only [Lit.wf, Bool.and_eq_true, decide_eq_true_eq]
    omega)
theorem kl_ne {i k : Int} (h : i ≠ k) : kl i ≠ kl k := fun e => h (by
  unfold kl at e
  injection e)
/-- 'm[i]' -/
theorem MI.look (h : MI w m j ks) {i : Int} (hi : Fits i) : (Instr.lookup 47 (.map (some m)) (.int .i64 i) false).run Try.prog w = .ok (.bool (ks.contains i)) w := by
  obtain ⟨D, h1, h2⟩ := h.own
  obtain ⟨v, ps, hrun, hv⟩ := h1.lookup keyed Try.underlying47 (zeroB w) (plainElem_bool Try.underlying4 false) (kl_key hi)
  obtain ⟨x, rfl, hx⟩ := plainElem_bool_inv Try.underlying4 hv
  rw [h2 i] at hx
  simp only [DataW.lit.injEq, Lit.bool.injEq] at hx
  rw [hrun, hx]
/-- 'm[k] = true' -/
theorem MI.store (h : MI w m j ks) {k : Int} (hk : Fits k) (hj : j ≤ 1000000) :
    ∃ w', (Instr.mapUpdate 47 (.map (some m)) (.int .i64 k) (.bool true)).run Try.prog w = .ok () w' ∧ MI w' m (j + 1) (k :: ks) ∧ Flow.Into [m] w w' := by
  obtain ⟨D, h1, h2⟩ := h.own
  have hM := h1.isMap
  obtain ⟨w', hrun, h5, h6⟩ := h1.update keyed Try.underlying47 (by unfold maxLen; omega) (kl_key hk) (plainElem_bool Try.underlying4 true)
  refine ⟨w', hrun, ⟨_, h5, fun i => ?_⟩, ⟨h6.os, h6.tape, h6.output, h6.size, fun b hb hn => h6.block b hb (by simpa using fun e => hn (by simp [e]))⟩⟩
  by_cases he : i = k
  · subst he
    rw [atKey_put_same hM (by trivial)]; simp
  · rw [atKey_put_other (kl_ne he), h2 i]
    simp [he]
end
end IMap
end Go.Proofs.Ytlcdjbleeanpbaa
