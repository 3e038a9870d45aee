/-
  A node of the call's own, loads, ranks, places (no code): what the calls of layer node leave.
-/
import Derived.Test.YtlcdjbleeanpbaaNodeR3
import Derived.Test.YtlcdjbleeanpbaaNodeK3
import Derived.Test.YtlcdjbleeanpbaaInts
namespace Go.Proofs.Ytlcdjbleeanpbaa
open Go.RowKit
namespace No
open Mem Lx Bu Lf Fa
/-- a slice that reads as L; if there is something in it, it lies in a block of the call's own (from B on) that may be written -/
structure Fr {α : Type} (K : Kind α) (w : World) (B : Nat) (A : Option Addr) (c : Nat) (L : List α) : Prop where
  rc : RC K w A c L
  own : 0 < L.length → ∃ (g o : Nat) (C : Array Value), A = some ⟨g, o, none⟩ ∧ B ≤ g ∧ w.heap[g]? = some (.cells C K.T (0, 0))
theorem Fr.of_vk {α : Type} {K : Kind α} {w : World} {B : Nat} {A : Option Addr} {c : Nat} {L : List α} (h : VK K w B A c L) : Fr K w B A c L := ⟨h.rc, fun h0 => by
  have hl : 0 < K.k ∨ K.k = 0 := by omega
  obtain ⟨h1, h2⟩ := h
  rcases h2 with ⟨h', hz⟩ | ⟨g, cap, cur, he, hB, hh, hr⟩
  · exfalso
    simp only [Value.slice.injEq] at h'
    omega
  · simp only [Value.slice.injEq] at he
    obtain ⟨rfl, -, rfl⟩ := he
    exact ⟨g, 0, cur, rfl, hB, hh⟩⟩
theorem Fr.keep {α : Type} {K : Kind α} {w w' : World} {B : Nat} {A : Option Addr} {c : Nat} {L : List α} (h : Fr K w B A c L) (hs : w.heap.size ≤ w'.heap.size) (hk : ∀ g o, 0 < L.length → A = some ⟨g, o, none⟩ → w'.heap[g]? = w.heap[g]?) : Fr K w' B A c L := by
  refine ⟨⟨fun h0 => ?_, h.rc.2⟩, fun h0 => ?_⟩
  · obtain ⟨b, o, e, hl, hc⟩ := h.rc.1 h0
    refine ⟨b, o, e, Nat.lt_of_lt_of_le hl hs, fun i x hx j u hu => ?_⟩
    rw [← hc i x hx j u hu]
    exact World.cell?_of_block (w := w) (a := ⟨b, o + (i * K.k + j), none⟩) (hk b o h0 e)
  · obtain ⟨g, o, C, e, hB, hh⟩ := h.own h0
    exact ⟨g, o, C, e, hB, by rw [hk g o h0 e]; exact hh⟩
theorem Fr.kept {α : Type} {K : Kind α} {w w' : World} {B : Nat} {A : Option Addr} {c : Nat} {L : List α} (h : Fr K w B A c L) (hb : Below w.heap.size w w') : Fr K w' B A c L := h.keep hb.size fun g o h0 e => by
  obtain ⟨g', o', C, e', _, hh⟩ := h.own h0
  rw [e] at e'
  simp only [Option.some.injEq, Addr.mk.injEq] at e'
  obtain ⟨rfl, -, -⟩ := e'
  exact hb.block g (Array.getElem?_eq_some_iff.1 hh).1
/-- a store ahead of what it has -/
theorem Fr.set {α : Type} {K : Kind α} {w : World} {B : Nat} {A : Option Addr} {c : Nat} {L : List α} (h : Fr K w B A c L) {g i : Nat} (hg : g < B) (v : Value) : Fr K (w.setCell ⟨g, i, none⟩ v) B A c L := h.keep (by simp) fun g' o' h0 e => by
  obtain ⟨g2, o2, C, e2, hB, hh⟩ := h.own h0
  rw [e] at e2
  simp only [Option.some.injEq, Addr.mk.injEq] at e2
  obtain ⟨rfl, -, -⟩ := e2
  exact set_other v (by omega)
structure FrNd (w : World) (B : Nat) (n : Nd) (a : At) : Prop where
  kids : Fr KdK w B a.kA a.kc n.kids
  piv : Fr StK w B a.pA a.pc n.piv
  buf : Fr MgK w B a.bA a.bc n.buf
  prs : Fr PrK w B a.qA a.qc n.prs
theorem FrNd.in_ {w : World} {B : Nat} {n : Nd} {a : At} (h : FrNd w B n a) : NdIn w n a := ⟨h.kids.rc, h.piv.rc, h.buf.rc, h.prs.rc⟩
theorem FrNd.kept {w w' : World} {B : Nat} {n : Nd} {a : At} (h : FrNd w B n a) (hb : Below w.heap.size w w') : FrNd w' B n a := ⟨h.kids.kept hb, h.piv.kept hb, h.buf.kept hb, h.prs.kept hb⟩
theorem FrNd.set {w : World} {B : Nat} {n : Nd} {a : At} (h : FrNd w B n a) {g i : Nat} (hg : g < B) (v : Value) : FrNd (w.setCell ⟨g, i, none⟩ v) B n a := ⟨h.kids.set hg v, h.piv.set hg v, h.buf.set hg v, h.prs.set hg v⟩
/-- each kid's load -/
def loadsN (n : Nd) : List Int := (List.range n.kids.length).map fun i => (ldN n i : Int)
theorem loadsN_len (n : Nd) : (loadsN n).length = n.kids.length := by simp [loadsN]
theorem loadsN_at {n : Nd} {i : Nat} (h : i < (loadsN n).length) : (loadsN n)[i] = (ldN n i : Int) := by simp [loadsN]
/-- the kids by falling loads -/
structure RankN (n : Nd) (r : List Nat) : Prop where
  perm : r.Perm (List.range n.kids.length)
  ahead : r.Pairwise fun i k => aheadN (ldN n) i k = true
theorem RankN.len {n : Nd} {r : List Nat} (h : RankN n r) : r.length = n.kids.length := by rw [h.perm.length_eq, List.length_range]
theorem RankN.lt {n : Nd} {r : List Nat} (h : RankN n r) {i : Nat} (hi : i ∈ r) : i < n.kids.length := by
  have := h.perm.mem_iff.1 hi
  simpa using this
theorem RankN.nodup {n : Nd} {r : List Nat} (h : RankN n r) : r.Nodup := h.perm.nodup_iff.2 List.nodup_range
theorem RankN.first {n : Nd} {r : List Nat} (h : RankN n r) {x : Nat} (hx : r[0]? = some x) : x = heavN (ldN n) n.kids.length := by
  have hx0 : x ∈ r := List.mem_of_getElem? hx
  have hlt := h.lt hx0
  have hm : heavN (ldN n) n.kids.length ∈ r := h.perm.mem_iff.2 (by simpa using heavN_lt (ldN n) (show 0 < n.kids.length by omega))
  obtain ⟨j, hj⟩ := List.mem_iff_getElem?.1 hm
  rcases Nat.eq_zero_or_pos j with rfl | h0
  · rw [hx] at hj
    cases hj
    rfl
  · exfalso
    obtain ⟨hj1, hj2⟩ := List.getElem?_eq_some_iff.1 hj
    obtain ⟨hx1, hx2⟩ := List.getElem?_eq_some_iff.1 hx
    have ha := List.pairwise_iff_getElem.1 h.ahead 0 j hx1 hj1 h0
    rw [hx2, hj2] at ha
    have t1 := heavN_top (ldN n) n.kids.length x hlt
    unfold aheadN at ha
    simp only [Bool.or_eq_true, Bool.and_eq_true, decide_eq_true_eq] at ha
    rcases ha with ha | ⟨ha, hb⟩
    · omega
    · have t2 := heavN_first (ldN n) n.kids.length x hb
      omega
/-- a block's place among the kids -/
def FindP (K : List Nat) (b v : Nat) (ok : Bool) : Prop := (ok = true ∧ K[v]? = some b ∧ ∀ j, j < v → K[j]? ≠ some b) ∨ (ok = false ∧ v = 0 ∧ b ∉ K)
end No
end Go.Proofs.Ytlcdjbleeanpbaa
