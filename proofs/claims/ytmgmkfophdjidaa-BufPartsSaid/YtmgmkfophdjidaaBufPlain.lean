/-
  Where a list's messages lie; a row of messages just laid; the first of such a row written.
-/
import Derived.Test.YtmgmkfophdjidaaMsgR3
import Derived.Test.YtmgmkfophdjidaaMsgG
namespace Go.Proofs.Ytmgmkfophdjidaa
open Go.RowKit
namespace Bu
open Mem Lx
theorem RdK.of_block {w : World} {g : Nat} {L : List Mg} {U : TypeId} {f : Nat × Nat} (h : w.heap[g]? = some (.cells (L.flatMap MgK.cs).toArray U f)) : ML w (some ⟨g, 0, none⟩) L := fun _ => by
  refine ⟨g, 0, rfl, (Array.getElem?_eq_some_iff.1 h).1, fun i x hx j u hu => ?_⟩
  have hj : j < MgK.k := by
    have := (List.getElem?_eq_some_iff.1 hu).1
    rw [MgK.len] at this
    exact this
  have := MgK.at_ hx hj
  simp only [World.cell?, h, Nat.zero_add]
  simpa [this] using hu
/-- kept where its block is -/
theorem RdK.kept_at {w w' : World} {A : Option Addr} {L : List Mg} (h : ML w A L) (hs : w.heap.size ≤ w'.heap.size) (hk : 0 < L.length → ∀ a, A = some a → w'.heap[a.block]? = w.heap[a.block]?) : ML w' A L := fun h0 => h.keep hs (hk h0) h0
theorem RdK.lt {w : World} {A : Option Addr} {L : List Mg} (h : ML w A L) (h0 : 0 < L.length) : ∀ x, A = some x → x.block < w.heap.size := fun x hx => by
  obtain ⟨b, o, e, hb, _⟩ := h h0
  rw [e] at hx
  cases hx
  exact hb
theorem cmpB_nil (a : ByteArray) : cmpB ⟨#[]⟩ a ≤ 0 := by
  unfold cmpB Lib.compareBytes
  split <;> simp_all
theorem in_below (key : ByteArray) : (fun m : Mg => inB ⟨#[]⟩ key false m.1) = fun m => decide (cmpB m.1 key < 0) := by
  funext m
  simp [inB, cmpB_nil]
/-- the block of a slice of one's own -/
theorem VK.block {w : World} {B c : Nat} {A : Option Addr} {L : List Mg} (h : M3 w B A c L) (h0 : 0 < L.length) : ∃ g C, A = some ⟨g, 0, none⟩ ∧ B ≤ g ∧ w.heap[g]? = some (.cells C 28 (0, 0)) := by
  rcases h.2 with ⟨_, h1⟩ | ⟨g, cap, cur, h1, hB, hg, _⟩
  · omega
  · obtain ⟨rfl, -⟩ : A = some ⟨g, 0, none⟩ ∧ c = cap := by simpa using h1
    exact ⟨g, cur, rfl, hB, hg⟩
theorem set3_keep (w : World) (b : Nat) (x y z : Value) {k : Nat} (hk : k ≠ b) : (set3 w b x y z).heap[k]? = w.heap[k]? := by
  unfold set3
  rw [Below.heap_setCell _ _ _ _ hk, Below.heap_setCell _ _ _ _ hk, Below.heap_setCell _ _ _ _ hk]
theorem set3_size (w : World) (b : Nat) (x y z : Value) : (set3 w b x y z).heap.size = w.heap.size := by simp [set3, World.setCell]
theorem RdK.set3 {w : World} {A : Option Addr} {L : List Mg} (h : ML w A L) (b : Nat) (x y z : Value) (hn : 0 < L.length → ∀ a, A = some a → a.block ≠ b) : ML (set3 w b x y z) A L :=
  RdK.kept_at h (Nat.le_of_eq (set3_size w b x y z).symm) fun h0 a ha => set3_keep w b x y z (hn h0 a ha)
end Bu
end Go.Proofs.Ytmgmkfophdjidaa
