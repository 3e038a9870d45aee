/-
  ChainOnce, plain: who is not called keeps the order; a chain, maps and lists that lie apart.
-/
import Derived.Test.YtokgnnmnnjfjbaaChainArgs
import Derived.Test.YtokgnnmnnjfjbaaIntMap
namespace Go.Proofs.Ytokgnnmnnjfjbaa
open Go.RowKit
namespace Cn
open Mem IMap

/-- those of the row that are not called -/
def keepR (K : List Int) (l : List Nat) : List Nat := l.filter fun x => !K.contains (x : Int)
theorem keepR_del {K : List Int} {l : List Nat} {k : Nat} (hk : K.contains (k : Int) = true) : keepR K (del l k) = keepR K l := by
  unfold keepR del
  rw [List.filter_filter]
  refine List.filter_congr fun x _ => ?_
  by_cases h : x = k
  · subst h; rw [hk]; rfl
  · simp [h]
theorem keepR_cons {K : List Int} {l : List Nat} {k : Nat} (hk : K.contains (k : Int) = true) : keepR K (k :: l) = keepR K l := by
  unfold keepR
  rw [List.filter_cons_of_neg (by rw [hk]; simp)]
theorem keepR_app {K : List Int} {l : List Nat} {k : Nat} (hk : K.contains (k : Int) = true) : keepR K (l ++ [k]) = keepR K l := by
  unfold keepR
  rw [List.filter_append, List.filter_cons_of_neg (by rw [hk]; simp)]
  simp
theorem keepR_act {K : List Int} {l : List Nat} {n : Nat} {kd i : Int} (hi : K.contains i = true) : keepR K (actT n l kd i) = keepR K l := by
  cases hin : inN n i with
  | true =>
    obtain ⟨k, rfl, _⟩ := inN_nat hin
    have e : ((k : Int)).toNat = k := by simp
    unfold actT fronT backT cutT
    rw [hin, e]
    simp only [if_true]
    split
    · rw [keepR_cons hi, keepR_del hi]
    · split
      · rw [keepR_app hi, keepR_del hi]
      · split
        · exact keepR_del hi
        · rfl
  | false =>
    unfold actT fronT backT cutT
    rw [hin]
    simp
theorem keepR_more {K : List Int} {l l' : List Nat} (h : keepR K l = keepR K l') (i : Int) : keepR (i :: K) l = keepR (i :: K) l' := by
  have e : ∀ l : List Nat, keepR (i :: K) l = (keepR K l).filter fun x : Nat => !((x : Int) == i) := fun l => by
    unfold keepR
    rw [List.filter_filter]
    refine List.filter_congr fun x _ => ?_
    rw [List.contains_cons, Bool.not_or]
  rw [e, e, h]
theorem keepR_step {K : List Int} {l l0 : List Nat} {n : Nat} {kd i : Int} (h : keepR K l = keepR K l0) : keepR (i :: K) (actT n l kd i) = keepR (i :: K) l0 := by
  rw [keepR_act (by simp), keepR_more h]
theorem keepR_take (K : List Int) (l : List Nat) {k : Nat} (hk : k < l.length) : keepR K (l.take (k + 1)) = keepR K (l.take k) ++ (if K.contains (l[k] : Int) then [] else [l[k]]) := by
  unfold keepR
  rw [← List.take_append_getElem hk, List.filter_append]
  congr 1
  cases h : K.contains (l[k] : Int) <;> simp only [List.filter_cons, h] <;> rfl
theorem keepR_len (K : List Int) (l : List Nat) : (keepR K l).length ≤ l.length := List.length_filter_le _ _
theorem rowZ_app (l r : List Nat) : rowZ (l ++ r) = rowZ l ++ rowZ r := by simp [rowZ]
theorem rowZ_one (x : Nat) : rowZ [x] = [(x : Int)] := rfl

/-- below block B the world w' is as w was, but for the blocks S -/
structure Bes (S : List Nat) (B : Nat) (w w' : World) : Prop where
  os : w'.os = w.os
  tape : w'.tape = w.tape
  output : w'.output = w.output
  size : w.heap.size ≤ w'.heap.size
  block : ∀ k, k < B → k ∉ S → w'.heap[k]? = w.heap[k]?
section
variable {S : List Nat} {B : Nat} {w w1 w2 : World}
theorem Bes.refl (S : List Nat) (B : Nat) (w : World) : Bes S B w w := ⟨rfl, rfl, rfl, Nat.le_refl _, fun _ _ _ => rfl⟩
theorem Bes.trans (h : Bes S B w w1) (k : Bes S B w1 w2) : Bes S B w w2 :=
  ⟨k.os.trans h.os, k.tape.trans h.tape, k.output.trans h.output, Nat.le_trans h.size k.size, fun i hi hn => (k.block i hi hn).trans (h.block i hi hn)⟩
theorem Bes.of_below (h : Below B w w1) : Bes S B w w1 := ⟨h.os, h.tape, h.output, h.size, fun k hk _ => h.block k hk⟩
theorem Bes.of_into (h : Flow.Into S w w1) (hB : B ≤ w.heap.size) : Bes S B w w1 := ⟨h.os, h.tape, h.output, h.size, fun k hk hn => h.block k (Nat.lt_of_lt_of_le hk hB) hn⟩
theorem Bes.bel {W : World} (h : Bes S B w w1) (hW : Below W.heap.size W w) (hS : ∀ k, k ∈ S → W.heap.size ≤ k) (hB : W.heap.size ≤ B) : Below W.heap.size W w1 :=
  hW.trans ⟨h.os, h.tape, h.output, h.size, fun k hk => h.block k (Nat.lt_of_lt_of_le hk hB) fun hh => absurd hk (Nat.not_lt.2 (hS k hh))⟩
end
theorem Chn.keep {w w' : World} {g b n : Nat} {l : List Nat} (h : Chn w g b n l) (hg : w'.heap[g]? = w.heap[g]?) (hb : w'.heap[b]? = w.heap[b]?) : Chn w' g b n l := by
  obtain ⟨c, A, B, h1, h2⟩ := h; exact ⟨c, A, B, h1.keep hg hb, h2⟩
theorem Chn.map_ne {w : World} {g b n m : Nat} {l : List Nat} (h : Chn w g b n l) {es : Array MapEntry} {clock : Nat} (hm : w.heap[m]? = some (.map es clock)) : m ≠ g ∧ m ≠ b := by
  obtain ⟨c, A, B, h1, h2⟩ := h
  refine ⟨?_, ?_⟩
  · rintro rfl
    rw [h1.hd] at hm; cases hm
  · rintro rfl
    obtain ⟨cur, hh⟩ := h1.lk.heap
    rw [hh] at hm; cases hm
theorem IL.map_ne {w : World} {A : Option Addr} {l : List Int} (h : IL w A l) (hl : 0 < l.length) {m : Nat} {es : Array MapEntry} {clock : Nat} (hm : w.heap[m]? = some (.map es clock)) : ∀ a, A = some a → a.block ≠ m := by
  rintro a rfl rfl
  obtain ⟨b, o, e, hc⟩ := h hl
  obtain rfl : a = ⟨b, o, none⟩ := by simpa using e
  have h0 := hc 0 hl
  simp [World.cell?, hm] at h0

/-- the chain, the map of those who are called, and the row that it had -/
structure O2 (W w : World) (g b m1 j : Nat) (A0 : Option Addr) (L0 L : List Nat) (K : List Int) : Prop where
  cr : Cr W w g b 12 L
  mi : MI w m1 j K
  hm : W.heap.size ≤ m1
  il : IL w A0 (rowZ L0)
  ap : ∀ a, A0 = some a → a.block ∉ [g, b, m1]
  al : ∀ a, A0 = some a → a.block < w.heap.size
section
variable {W w w' : World} {g b m1 j : Nat} {A0 : Option Addr} {L0 L : List Nat} {K : List Int}
theorem O2.ne (h : O2 W w g b m1 j A0 L0 L K) : m1 ≠ g ∧ m1 ≠ b := by
  obtain ⟨es, clock, ho⟩ := h.mi.obj
  exact h.cr.ch.map_ne ho
theorem O2.step (h : O2 W w g b m1 j A0 L0 L K) (kd i : Int) : Calls Try.prog 21 #[.pointer (some ⟨g, 0, none⟩), .agg #[.int .i64 kd, .int .i64 i]] w fun e w' => e = .returned (.tuple #[]) ∧ O2 W w' g b m1 j A0 L0 (actT 12 L kd i) K :=
  (step_any h.cr kd i).mono fun e w' ⟨he, hc, hi⟩ => ⟨he, ⟨hc, h.mi.keep (hi.block _ h.mi.lt (by have := h.ne; simp; omega)), h.hm, h.il.into hi fun a ha => by have := h.ap a ha; simp at this ⊢; omega, h.ap, fun a ha => Nat.lt_of_lt_of_le (h.al a ha) hi.size⟩⟩
theorem O2.store (h : O2 W w g b m1 j A0 L0 L K) {i : Int} (hi : Fits i) (hj : j ≤ 1000000) :
    ∃ w', (Instr.mapUpdate 42 (.map (some m1)) (.int .i64 i) (.bool true)).run Try.prog w = .ok () w' ∧ O2 W w' g b m1 (j + 1) A0 L0 L (i :: K) := by
  obtain ⟨w', h1, h2, h3⟩ := h.mi.store hi hj
  have hne := h.ne
  have hb := below_into h.cr.bel h3 (by simpa using h.hm) h.cr.bel.size
  exact ⟨w', h1, ⟨⟨h.cr.ch.into h3 (by simp; omega) (by simp; omega), hb, h.cr.hg, h.cr.hb⟩, h2, h.hm, h.il.into h3 fun a ha => by have := h.ap a ha; simp at this ⊢; omega, h.ap, fun a ha => Nat.lt_of_lt_of_le (h.al a ha) h3.size⟩⟩
theorem O2.kept (h : O2 W w g b m1 j A0 L0 L K) (hb : Below w.heap.size w w') : O2 W w' g b m1 j A0 L0 L K := ⟨h.cr.kept hb, h.mi.keep (hb.block _ h.mi.lt), h.hm, h.il.below hb, h.ap, fun a ha => Nat.lt_of_lt_of_le (h.al a ha) hb.size⟩
/-- where only blocks that lie apart are turned -/
theorem O2.bes {S : List Nat} {B : Nat} (h : O2 W w g b m1 j A0 L0 L K) (hb : Bes S B w w') (hg : g < B ∧ g ∉ S) (hbb : b < B ∧ b ∉ S) (hm : m1 < B ∧ m1 ∉ S) (hA : ∀ a, A0 = some a → a.block < B ∧ a.block ∉ S) (hS : ∀ k, k ∈ S → W.heap.size ≤ k) (hB : W.heap.size ≤ B) : O2 W w' g b m1 j A0 L0 L K :=
  ⟨⟨h.cr.ch.keep (hb.block _ hg.1 hg.2) (hb.block _ hbb.1 hbb.2), hb.bel h.cr.bel hS hB, h.cr.hg, h.cr.hb⟩, h.mi.keep (hb.block _ hm.1 hm.2), h.hm, h.il.keep fun _ a ha => hb.block _ (hA a ha).1 (hA a ha).2, h.ap, fun a ha => Nat.lt_of_lt_of_le (h.al a ha) hb.size⟩
end
/-- behind Row, a new map: for those who are called -/
theorem Cr.called {W w w' : World} {g b : Nat} {L : List Nat} {A : Option Addr} {c : Nat} (h : Cr W w g b 12 L) (hb : Below w.heap.size w w') (ho : Iow 3 w' w.heap.size A c (rowZ L)) : O2 W (w'.alloc (.map #[] 0)) g b w'.heap.size 0 A L L [] := by
  have h1 : Below w'.heap.size w' (w'.alloc (.map #[] 0)) := (Below.refl _ _).alloc (Nat.le_refl _) _
  have h2 := h.kept hb
  have hlt := h.ch.lt
  refine ⟨h2.kept h1, MI.made w', h2.bel.size, ho.il.below h1, fun a ha => ?_, fun a ha => Nat.lt_of_lt_of_le (ho.lt a ha) h1.size⟩
  have e1 := ho.from_ a ha
  have e2 := ho.lt a ha
  simp
  omega
end Cn
end Go.Proofs.Ytokgnnmnnjfjbaa
