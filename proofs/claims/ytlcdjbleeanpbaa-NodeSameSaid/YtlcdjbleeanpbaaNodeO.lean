/-
  Nodes of the call's own that are written into (no code).
-/
import Derived.Test.YtlcdjbleeanpbaaNodeLaw
namespace Go.Proofs.Ytlcdjbleeanpbaa
open Go.RowKit
namespace No
open Mem Lx Bu Lf Fa
theorem Fit.sz {n : Nd} (h : Fit n) : Sz n := ⟨fun p hp => Nat.le_trans (h.pk p hp) (by decide), fun m hm => Nat.le_trans (h.bk m hm) (by decide), fun m hm => Nat.le_trans (h.qk m hm) (by decide), Nat.le_trans h.kids (by decide), Nat.le_trans h.piv (by decide), Nat.le_trans h.buf (by decide), Nat.le_trans h.prs (by decide)⟩
theorem ty_ne {w : World} {g k : Nat} {C C' : Array Value} {T T' : TypeId} (h : w.heap[g]? = some (.cells C T (0, 0))) (h' : w.heap[k]? = some (.cells C' T' (0, 0))) (hT : T ≠ T') : g ≠ k := fun e => by
  subst e
  rw [h] at h'
  simp only [Option.some.injEq, Obj.cells.injEq] at h'
  exact hT h'.2.1
section
variable {α : Type} {K : Kind α} {w w' : World} {B lo hi : Nat} {A : Option Addr} {c : Nat} {L : List α}
theorem Fr.mono {B' : Nat} (h : Fr K w B A c L) (hB : B' ≤ B) : Fr K w B' A c L := ⟨h.rc, fun h0 => by
  obtain ⟨g, o, C, e, hg, hh⟩ := h.own h0
  exact ⟨g, o, C, e, Nat.le_trans hB hg, hh⟩⟩
/-- a store into a block of another type -/
theorem Fr.other (h : Fr K w B A c L) {k i : Nat} {C : Array Value} {T : TypeId} (hc : w.heap[k]? = some (.cells C T (0, 0))) (hT : T ≠ K.T) (v : Value) : Fr K (w.setCell ⟨k, i, none⟩ v) B A c L := h.keep (by simp) fun g' o' h0 e => by
  obtain ⟨g2, o2, C2, e2, hB, hh⟩ := h.own h0
  rw [e] at e2
  simp only [Option.some.injEq, Addr.mk.injEq] at e2
  obtain ⟨rfl, -, -⟩ := e2
  exact set_other v (ty_ne hc hh hT).symm
/-- what stands first in a slice of the call's own -/
def Fs (K : Kind α) (lo hi : Nat) (A : Option Addr) (L : List α) (w : World) : Prop := 0 < L.length → ∃ (g o : Nat) (C : Array Value) (x : α), A = some ⟨g, o, none⟩ ∧ lo ≤ g ∧ g < hi ∧ w.heap[g]? = some (.cells C K.T (0, 0)) ∧ L[0]? = some x ∧ ∀ (j : Nat) (u : Value), (K.cs x)[j]? = some u → w.cell? ⟨g, o + j, none⟩ = some u
theorem Fr.fs (h : Fr K w B A c L) : Fs K B w.heap.size A L w := fun h0 => by
  obtain ⟨g, o, C, e, hB, hh⟩ := h.own h0
  obtain ⟨b, o', e', hl, hc⟩ := h.rc.1 h0
  rw [e] at e'
  simp only [Option.some.injEq, Addr.mk.injEq] at e'
  obtain ⟨rfl, rfl, -⟩ := e'
  refine ⟨g, o, C, L[0], e, hB, hl, hh, List.getElem?_eq_getElem h0, fun j u hu => ?_⟩
  have := hc 0 L[0] (List.getElem?_eq_getElem h0) j u hu
  simpa using this
theorem Fs.keep (h : Fs K lo hi A L w) (hk : ∀ g C, w.heap[g]? = some (.cells C K.T (0, 0)) → g < hi → w'.heap[g]? = w.heap[g]?) : Fs K lo hi A L w' := fun h0 => by
  obtain ⟨g, o, C, x, e, h1, h2, h3, h4, h5⟩ := h h0
  have := hk g C h3 h2
  refine ⟨g, o, C, x, e, h1, h2, by rw [this]; exact h3, h4, fun j u hu => ?_⟩
  rw [← h5 j u hu]
  exact World.cell?_of_block (w := w) (a := ⟨g, o + j, none⟩) this
theorem Fs.kept (h : Fs K lo hi A L w) (hb : Below w.heap.size w w') : Fs K lo hi A L w' := h.keep fun g _ hg _ => hb.block g (Array.getElem?_eq_some_iff.1 hg).1
theorem Fs.other (h : Fs K lo hi A L w) {k i : Nat} {C : Array Value} {T : TypeId} (hc : w.heap[k]? = some (.cells C T (0, 0))) (hT : T ≠ K.T) (v : Value) : Fs K lo hi A L (w.setCell ⟨k, i, none⟩ v) := h.keep fun _ _ hg _ => set_other v (ty_ne hc hg hT).symm
end
theorem FrNd.mono {w : World} {B B' : Nat} {n : Nd} {a : At} (h : FrNd w B n a) (hB : B' ≤ B) : FrNd w B' n a := ⟨h.kids.mono hB, h.piv.mono hB, h.buf.mono hB, h.prs.mono hB⟩
theorem FrNd.other {w : World} {B : Nat} {n : Nd} {a : At} (h : FrNd w B n a) {k i : Nat} {C : Array Value} (hc : w.heap[k]? = some (.cells C 31 (0, 0))) (v : Value) : FrNd (w.setCell ⟨k, i, none⟩ v) B n a :=
  ⟨h.kids.other hc (by decide) v, h.piv.other hc (by decide) v, h.buf.other hc (by decide) v, h.prs.other hc (by decide) v⟩
def set5 (w : World) (b : Nat) (v0 v1 v2 v3 v4 : Value) : World := ((((w.setCell ⟨b, 0, none⟩ v0).setCell ⟨b, 1, none⟩ v1).setCell ⟨b, 2, none⟩ v2).setCell ⟨b, 3, none⟩ v3).setCell ⟨b, 4, none⟩ v4
theorem set5_at {w : World} {b : Nat} {u0 u1 u2 u3 u4 : Value} {U : TypeId} (h : w.heap[b]? = some (.cells #[u0, u1, u2, u3, u4] U (0, 0))) (v0 v1 v2 v3 v4 : Value) : (set5 w b v0 v1 v2 v3 v4).heap[b]? = some (.cells #[v0, v1, v2, v3, v4] U (0, 0)) := by
  unfold set5
  simp [World.setCell, Array.getElem?_modify, h]
theorem set5_other {w : World} {b k : Nat} (v0 v1 v2 v3 v4 : Value) (hk : k ≠ b) : (set5 w b v0 v1 v2 v3 v4).heap[k]? = w.heap[k]? := by
  unfold set5
  rw [set_other _ hk, set_other _ hk, set_other _ hk, set_other _ hk, set_other _ hk]
theorem set5_size (w : World) (b : Nat) (v0 v1 v2 v3 v4 : Value) : (set5 w b v0 v1 v2 v3 v4).heap.size = w.heap.size := by
  unfold set5
  simp
theorem set5_below {B b : Nat} {a w : World} (h : Below B a w) (hb : B ≤ b) (v0 v1 v2 v3 v4 : Value) : Below B a (set5 w b v0 v1 v2 v3 v4) := ((((h.setCell hb v0).setCell hb v1).setCell hb v2).setCell hb v3).setCell hb v4
theorem Fr.into5 {α : Type} {K : Kind α} {w : World} {B : Nat} {A : Option Addr} {c : Nat} {L : List α} (h : Fr K w B A c L) {b : Nat} {C : Array Value} (hc : w.heap[b]? = some (.cells C 31 (0, 0))) (hT : 31 ≠ K.T) (v0 v1 v2 v3 v4 : Value) : Fr K (set5 w b v0 v1 v2 v3 v4) B A c L := h.keep (by rw [set5_size]; exact Nat.le_refl _) fun g' o' h0 e => by
  obtain ⟨g2, o2, C2, e2, hB, hh⟩ := h.own h0
  rw [e] at e2
  simp only [Option.some.injEq, Addr.mk.injEq] at e2
  obtain ⟨rfl, -, -⟩ := e2
  exact set5_other _ _ _ _ _ (ty_ne hc hh hT).symm
theorem FrNd.into5 {w : World} {B : Nat} {n : Nd} {a : At} (h : FrNd w B n a) {b : Nat} {C : Array Value} (hc : w.heap[b]? = some (.cells C 31 (0, 0))) (v0 v1 v2 v3 v4 : Value) : FrNd (set5 w b v0 v1 v2 v3 v4) B n a :=
  ⟨h.kids.into5 hc (by decide) _ _ _ _ _, h.piv.into5 hc (by decide) _ _ _ _ _, h.buf.into5 hc (by decide) _ _ _ _ _, h.prs.into5 hc (by decide) _ _ _ _ _⟩
theorem Fs.into5 {α : Type} {K : Kind α} {w : World} {lo hi : Nat} {A : Option Addr} {L : List α} (h : Fs K lo hi A L w) {b : Nat} {C : Array Value} (hc : w.heap[b]? = some (.cells C 31 (0, 0))) (hT : 31 ≠ K.T) (v0 v1 v2 v3 v4 : Value) : Fs K lo hi A L (set5 w b v0 v1 v2 v3 v4) := h.keep fun _ _ hg _ => set5_other _ _ _ _ _ (ty_ne hc hg hT).symm
/-- four boxes of nodes, and the last one's lists -/
structure Bx4 (W : World) (g p q B : Nat) (X Y Z V : Array Value) (n : Nd) (a : At) (w : World) : Prop where
  below : Below W.heap.size W w
  x : w.heap[g]? = some (.cells X 31 (0, 0))
  y : w.heap[g + 1]? = some (.cells Y 31 (0, 0))
  z : w.heap[p]? = some (.cells Z 31 (0, 0))
  v : w.heap[q]? = some (.cells V 31 (0, 0))
  was : FrNd w B n a
section
variable {W : World} {g p q B : Nat} {X Y Z V : Array Value} {n : Nd} {a : At} {w : World}
theorem Bx4.kept {w' : World} (h : Bx4 W g p q B X Y Z V n a w) (hb : Below w.heap.size w w') : Bx4 W g p q B X Y Z V n a w' := ⟨h.below.trans (hb.mono h.below.size), kept3 h.x hb, kept3 h.y hb, kept3 h.z hb, kept3 h.v hb, h.was.kept hb⟩
theorem Bx4.set (h : Bx4 W g p q B X Y Z V n a w) {k i : Nat} (hk : W.heap.size ≤ k) (hB : k < B) {C : Array Value} {T : TypeId} (hc : w.heap[k]? = some (.cells C T (0, 0))) (hT : T ≠ 31) (u : Value) : Bx4 W g p q B X Y Z V n a (w.setCell ⟨k, i, none⟩ u) :=
  ⟨h.below.setCell hk u, (set_other u (ty_ne hc h.x hT).symm).trans h.x, (set_other u (ty_ne hc h.y hT).symm).trans h.y, (set_other u (ty_ne hc h.z hT).symm).trans h.z, (set_other u (ty_ne hc h.v hT).symm).trans h.v, h.was.set hB u⟩
end
end No
end Go.Proofs.Ytlcdjbleeanpbaa
