/-
  Kids taken out of a heap one by one stand by falling loads (no code).
-/
import Derived.Test.YtlcdjbleeanpbaaNodeF
import Derived.Test.YtlcdjbleeanpbaaHeapP
namespace Go.Proofs.Ytlcdjbleeanpbaa
namespace No
theorem ahead_iff {f : Nat → Nat} {i k : Nat} : aheadN f i k = true ↔ f k < f i ∨ f i = f k ∧ i < k := by
  unfold aheadN
  simp only [Bool.or_eq_true, Bool.and_eq_true, decide_eq_true_eq]
theorem not_ahead {f : Nat → Nat} {i k : Nat} : aheadN f i k = false ↔ f i < f k ∨ f i = f k ∧ k ≤ i := by
  rw [Bool.eq_false_iff, Ne, ahead_iff]
  omega
theorem ahead_ord (f : Nat → Nat) : Hp.Ord (aheadN f) :=
  ⟨fun a b h => by
    rw [ahead_iff] at h
    rw [not_ahead]
    omega, fun a b c h1 h2 => by
    rw [not_ahead] at h1 h2 ⊢
    omega⟩
theorem ahead_self (f : Nat → Nat) (a : Nat) : aheadN f a a = false := by
  rw [not_ahead]
  omega
/-- some were taken, the others are left -/
structure Popd (f : Nat → Nat) (n : Nat) (out rest : List Nat) : Prop where
  perm : (out ++ rest).Perm (List.range n)
  sorted : out.Pairwise fun i k => aheadN f i k = true
  over : ∀ x, x ∈ out → ∀ y, y ∈ rest → aheadN f x y = true
theorem Popd.none {f : Nat → Nat} {n : Nat} {rest : List Nat} (h : rest.Perm (List.range n)) : Popd f n [] rest := ⟨h, .nil, fun x hx => by cases hx⟩
theorem Popd.step {f : Nat → Nat} {n : Nat} {out rest rest' : List Nat} {x : Nat} (h : Popd f n out rest) (ht : Hp.Took (aheadN f) rest x rest') : Popd f n (out ++ [x]) rest' := by
  have hx : x ∈ rest := ht.perm.mem_iff.2 List.mem_cons_self
  have hp : (out ++ [x] ++ rest').Perm (List.range n) := by
    have h1 : (out ++ [x] ++ rest').Perm (out ++ rest) := by
      rw [List.append_assoc]
      exact List.Perm.append_left out ht.perm.symm
    exact h1.trans h.perm
  refine ⟨hp, ?_, fun z hz y hy => ?_⟩
  · rw [List.pairwise_append]
    refine ⟨h.sorted, by simp, fun a ha b hb => ?_⟩
    obtain rfl : b = x := by simpa using hb
    exact h.over a ha b hx
  · have hyr : y ∈ rest := ht.perm.mem_iff.2 (List.mem_cons_of_mem _ hy)
    rcases List.mem_append.1 hz with hz | hz
    · exact h.over z hz y hyr
    · obtain rfl : z = x := by simpa using hz
      have hl := ht.least y hy
      rw [not_ahead] at hl
      rw [ahead_iff]
      have hne : z ≠ y := fun e => by
        subst e
        have hnd : (out ++ [z] ++ rest').Nodup := hp.nodup_iff.2 List.nodup_range
        rw [List.nodup_append] at hnd
        exact hnd.2.2 z (List.mem_append_right _ (by simp)) z hy rfl
      omega
theorem Popd.rank {nd : Nd} {out : List Nat} (h : Popd (ldN nd) nd.kids.length out []) : RankN nd out := ⟨by
  have := h.perm
  rwa [List.append_nil] at this, h.sorted⟩
end No
end Go.Proofs.Ytlcdjbleeanpbaa
