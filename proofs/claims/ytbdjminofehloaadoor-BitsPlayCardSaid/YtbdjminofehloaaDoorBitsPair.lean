/-
  A row of the code beside the document's.
-/
import Derived.Test.YtbdjminofehloaaDoorBitsAwake
import Derived.Test.YtbdjminofehloaaDoorBitsRef
namespace Go.Proofs.YtbdjminofehloaaDoor
open Go.RowKit
namespace Bt
open Mem

/-- both rows, made behind W: what the code's holds (tr) and what the document's holds (tl) -/
structure Pl (W w : World) (g b h c n : Nat) (tr tl : List Bool) : Prop where
  rw : Rw W w g b tr
  bo : BoolAt w h c n tl
  hh : W.heap.size ≤ h
  hn : n ≤ 1048576
section
variable {W w w' : World} {g b h c n : Nat} {tr tl : List Bool}
theorem RowAt.bo_ne (H : RowAt w g b tr) (B : BoolAt w h c n tl) : h ≠ b := by
  rintro rfl
  obtain ⟨c', ws, hw⟩ := H
  obtain ⟨_, h1⟩ := hw.ow
  obtain ⟨_, h2⟩ := B.ow
  rcases h1 with ⟨h1, _⟩ | ⟨g1, c1, cur1, e1, _, hh1, _⟩
  · cases h1
  rcases h2 with ⟨h2, _⟩ | ⟨g2, c2, cur2, e2, _, hh2, _⟩
  · cases h2
  obtain ⟨rfl, rfl⟩ : h = g1 ∧ c' = c1 := by simpa using e1
  obtain ⟨rfl, rfl⟩ : h = g2 ∧ c = c2 := by simpa using e2
  rw [hh1] at hh2
  simp at hh2
theorem RowAt.bo_ne' (H : RowAt w g b tr) (B : BoolAt w h c n tl) : h ≠ g := by
  rintro rfl
  obtain ⟨c', ws, hw⟩ := H
  have h1 := hw.hd
  obtain ⟨_, h2⟩ := B.ow
  rcases h2 with ⟨h2, _⟩ | ⟨g2, c2, cur2, e2, _, hh2, _⟩
  · cases h2
  obtain ⟨rfl, rfl⟩ : h = g2 ∧ c = c2 := by simpa using e2
  rw [h1] at hh2
  simp at hh2
theorem Pl.kept (H : Pl W w g b h c n tr tl) (hT : Tab W) (hb : Below w.heap.size w w') : Pl W w' g b h c n tr tl := ⟨H.rw.kept hT hb, H.bo.kept hb, H.hh, H.hn⟩
theorem Pl.RSet (H : Pl W w g b h c n tr tl) (hT : Tab W) (i : Int) : Calls Tryd.prog 10 #[.slice (some ⟨h, 0, none⟩) n c, .int .i64 i] w fun e w' => ∃ h' c', e = .returned (.tuple #[.slice (some ⟨h', 0, none⟩) n c', .int .i64 (setE tl i)]) ∧ Pl W w' g b h' c' n tr (setT tl i) :=
  (RSet_any h c n tl i w H.bo H.hn W.heap.size H.hh H.rw.bel.size).mono fun _ _ ⟨h', c', he, h1, h2, h3⟩ => ⟨h', c', he, H.rw.kept hT h3, h1, h2, H.hn⟩
theorem Pl.RClear (H : Pl W w g b h c n tr tl) (hT : Tab W) (i : Int) : Calls Tryd.prog 12 #[.slice (some ⟨h, 0, none⟩) n c, .int .i64 i] w fun e w' => ∃ h' c', e = .returned (.tuple #[.slice (some ⟨h', 0, none⟩) n c', .int .i64 (clrE tl i)]) ∧ Pl W w' g b h' c' n tr (clrT tl i) :=
  (RClear_any h c n tl i w H.bo H.hn W.heap.size H.hh H.rw.bel.size).mono fun _ _ ⟨h', c', he, h1, h2, h3⟩ => ⟨h', c', he, H.rw.kept hT h3, h1, h2, H.hn⟩
theorem Pl.Set (H : Pl W w g b h c n tr tl) (hT : Tab W) (i : Int) : Calls Tryd.prog 11 #[.pointer (some ⟨g, 0, none⟩), .int .i64 i] w fun e w' => e = .returned (.int .i64 (setE tr i)) ∧ Pl W w' g b h c n (setT tr i) tl :=
  (H.rw.Set hT i).mono fun _ _ ⟨he, hr, hi⟩ => ⟨he, hr, H.bo.into hi (by simpa using H.rw.row.bo_ne H.bo), H.hh, H.hn⟩
theorem Pl.Clear (H : Pl W w g b h c n tr tl) (hT : Tab W) (i : Int) : Calls Tryd.prog 13 #[.pointer (some ⟨g, 0, none⟩), .int .i64 i] w fun e w' => e = .returned (.int .i64 (clrE tr i)) ∧ Pl W w' g b h c n (clrT tr i) tl :=
  (H.rw.Clear hT i).mono fun _ _ ⟨he, hr, hi⟩ => ⟨he, hr, H.bo.into hi (by simpa using H.rw.row.bo_ne H.bo), H.hh, H.hn⟩
theorem Pl.Has (H : Pl W w g b h c n tr tl) (hT : Tab W) (i : Int) : Calls Tryd.prog 19 #[.pointer (some ⟨g, 0, none⟩), .int .i64 i] w fun e w' => e = .returned (.bool (hasB tr i)) ∧ Pl W w' g b h c n tr tl :=
  (H.rw.Has hT i).mono fun _ _ ⟨he, _, hb⟩ => ⟨he, H.kept hT hb⟩

/-- behind Fork: the elder row, g and b, and a new one -/
structure Fk (W w : World) (g b g' b' h c n : Nat) (tr tl : List Bool) : Prop where
  old : ∃ t, Rw W w g b t
  new : Pl W w g' b' h c n tr tl
  n1 : g' ≠ b
  n2 : b' ≠ b
theorem Pl.Fork (H : Pl W w g b h c n tr tl) (hT : Tab W) : Calls Tryd.prog 14 #[.pointer (some ⟨g, 0, none⟩)] w fun e w' => ∃ g' b', e = .returned (.pointer (some ⟨g', 0, none⟩)) ∧ Fk W w' g b g' b' h c n tr tl :=
  (Fork_any g b tr w H.rw.row).mono fun _ w' ⟨⟨g', b', he, hr, hg, hb⟩, hbl⟩ => by
    have h1 := H.rw.kept hT hbl
    have hlt := H.rw.row.lt
    have h2 := H.rw.bel.size
    exact ⟨g', b', he, ⟨tr, h1⟩, ⟨⟨hr, h1.tab, h1.bel, by omega, by omega⟩, H.bo.kept hbl, H.hh, H.hn⟩, by omega, by omega⟩
theorem Fk.into {g' b' : Nat} {t' : List Bool} (H : Fk W w g b g' b' h c n tr tl) (hT : Tab W) (ho : Rw W w' g b t') (hi : Flow.Into [b] w w') : Fk W w' g b g' b' h c n tr tl := by
  obtain ⟨⟨t, h1⟩, ⟨h2, h3, h4, h5⟩, h6, h7⟩ := H
  exact ⟨⟨t', ho⟩, ⟨⟨h2.row.into hi (by simpa using h6) (by simpa using h7), ho.tab, ho.bel, h2.hg, h2.hb⟩, h3.into hi (by simpa using h1.row.bo_ne h3), h4, h5⟩, h6, h7⟩
theorem Fk.Set {g' b' : Nat} (H : Fk W w g b g' b' h c n tr tl) (hT : Tab W) (i : Int) : Calls Tryd.prog 11 #[.pointer (some ⟨g, 0, none⟩), .int .i64 i] w fun e w' => ∃ x, e = .returned (.int .i64 x) ∧ Fk W w' g b g' b' h c n tr tl := by
  obtain ⟨t, h1⟩ := H.old
  exact (h1.Set hT i).mono fun _ _ ⟨he, hr, hi⟩ => ⟨_, he, H.into hT hr hi⟩
theorem Fk.Clear {g' b' : Nat} (H : Fk W w g b g' b' h c n tr tl) (hT : Tab W) (i : Int) : Calls Tryd.prog 13 #[.pointer (some ⟨g, 0, none⟩), .int .i64 i] w fun e w' => ∃ x, e = .returned (.int .i64 x) ∧ Fk W w' g b g' b' h c n tr tl := by
  obtain ⟨t, h1⟩ := H.old
  exact (h1.Clear hT i).mono fun _ _ ⟨he, hr, hi⟩ => ⟨_, he, H.into hT hr hi⟩
end
/-- both, made -/
theorem cnt_free (n : Nat) : cnt (List.replicate n false) = 0 := by
  unfold cnt
  refine pc_none fun i _ => ?_
  simp only [List.getD, List.getElem?_replicate]
  split <;> rfl
theorem Rw.RNew {W w : World} {g b n : Nat} (H : Rw W w g b (List.replicate n false)) (hT : Tab W) (hn : n ≤ 1048576) : Calls Tryd.prog 9 #[.int .i64 (n : Int)] w fun e w' => ∃ h c, e = .returned (.slice (some ⟨h, 0, none⟩) n c) ∧ Pl W w' g b h c n (List.replicate n false) (List.replicate n false) :=
  (RNew_any n w hn).mono fun _ _ ⟨h, c, he, h1, h2, h3⟩ => ⟨h, c, he, H.kept hT h3, h1, Nat.le_trans H.bel.size h2, hn⟩
end Bt
end Go.Proofs.YtbdjminofehloaaDoor
