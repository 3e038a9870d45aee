/-
  A pool beside the document's; what becomes of both, and what they tell.
-/
import Derived.Test.YtndbbpdggggenaaDoorPoolAwake
namespace Go.Proofs.YtndbbpdggggenaaDoor
open Go.RowKit
namespace Po
open Mem Bt

theorem got_upto (tb : List Bool) (k : Nat) : ∀ p, p ≤ tb.length → k ≤ (frs tb p).length → ∃ t l, Got tb k t l
  | 0, hp, h => ⟨_, _, 0, hp, rfl, rfl, by simp [frs] at h ⊢; omega⟩
  | p + 1, hp, h => by
    by_cases h1 : k ≤ (frs tb p).length
    · exact got_upto tb k p (by omega) h1
    · refine ⟨_, _, p + 1, hp, rfl, rfl, ?_⟩
      have h2 : (frs tb (p + 1)).length ≤ (frs tb p).length + 1 := by
        show (frs tb p ++ (if tb.getD p false then [] else [p])).length ≤ _
        rw [List.length_append]
        cases tb.getD p false <;> simp
      omega
theorem got_some {tb : List Bool} {k : Nat} (h : k ≤ free tb) : ∃ t l, Got tb k t l := got_upto tb k tb.length (Nat.le_refl _) (by rw [frs_all]; exact h)
theorem UL.into {S : List Nat} {w w' : World} {A : Option Addr} {l : List Nat} (h : UL w A l) (hi : Flow.Into S w w') (hn : ∀ a, A = some a → a.block ∉ S) : UL w' A l := fun h0 => by
  obtain ⟨b, rfl, hlt, hc⟩ := h h0
  refine ⟨b, rfl, Nat.lt_of_lt_of_le hlt hi.size, fun i hi' => ?_⟩
  rw [← hc i hi']
  exact World.cell?_of_block (w := w) (a := ⟨b, i, none⟩) (hi.block b hlt (hn _ rfl))
/-- a pool with the places tp beside the document's with the places td -/
structure Pr (W w : World) (q g b h c n : Nat) (tp td : List Bool) : Prop where
  pw : Pw W w q g b tp
  bo : BoolAt w h c n td
  hh : W.heap.size ≤ h
  ln : tp.length = n
section
variable {W w w' : World} {q g b h c n k : Nat} {tp td t t1 : List Bool} {l : List Nat}
theorem Pr.ne (H : Pr W w q g b h c n tp td) : h ≠ b := by
  obtain ⟨c1, ws, hw⟩ := H.pw.rw.row
  exact fun e => vo_ne_ow (VO.of_ow hw.ow (Nat.le_refl _)) H.bo.ow (by decide) _ rfl e.symm
theorem Pr.kept (H : Pr W w q g b h c n tp td) (hT : Tab W) (hb : Below w.heap.size w w') : Pr W w' q g b h c n tp td := ⟨H.pw.kept hT hb, H.bo.kept hb, H.hh, H.ln⟩
theorem Pr.doc (H : Pr W w q g b h c n tp td) (hT : Tab W) (hb : Below w.heap.size w w') {h' c' : Nat} {td' : List Bool} (ho : BoolAt w' h' c' n td') (hh : W.heap.size ≤ h') : Pr W w' q g b h' c' n tp td' := ⟨H.pw.kept hT hb, ho, hh, H.ln⟩
theorem Pr.pool (H : Pr W w q g b h c n tp td) (hi : Flow.Into [b] w w') {tp' : List Bool} (hp : Pw W w' q g b tp') (hl : tp'.length = tp.length) : Pr W w' q g b h c n tp' td :=
  ⟨hp, H.bo.into hi (by simpa using H.ne), H.hh, by rw [hl, H.ln]⟩
theorem Pr.le (H : Pr W w q g b h c n tp td) : 1 ≤ n ∧ n ≤ 65536 := by
  have := H.pw.len
  rw [H.ln] at this
  exact this
theorem Pr.RGrab (H : Pr W w q g b h c n t t) (hT : Tab W) (hk : k ≤ free t) (hG : Got t k t1 l) : Calls Tryd.prog 11 #[.slice (some ⟨h, 0, none⟩) n c, .int .i64 (k : Int)] w fun e w' =>
    ∃ h' c' A c2, e = .returned (.tuple #[.slice (some ⟨h', 0, none⟩) n c', .slice A k c2, .int .i64 0]) ∧ Pr W w' q g b h' c' n t t1 ∧ UL w' A l ∧ (∀ a, A = some a → a.block ∉ [b]) ∧ Below w.heap.size w w' :=
  (RGrab_ok h c n k t w H.bo H.le.2 hk W.heap.size H.hh H.pw.size).mono fun e w' ⟨h', c', A, c2, t', l', he, hg, ho, hv, hB, hb⟩ => by
    obtain ⟨rfl, rfl⟩ := hg.one hG
    refine ⟨h', c', A, c2, he, H.doc hT hb ho hB, UL.of_vo hv, fun a ha hab => ?_, hb⟩
    have h1 := (hv.at_ a ha).1
    have h2 := H.pw.lts.2.2.1
    have h3 : a.block = b := by simpa using hab
    omega
theorem Pr.Grab (H : Pr W w q g b h c n t td) (hT : Tab W) (hk : k ≤ free t) (hG : Got t k t1 l) : Calls Tryd.prog 13 #[.pointer (some ⟨q, 0, none⟩), .int .i64 (k : Int)] w fun e w' =>
    ∃ c', e = .returned (.tuple #[.slice (some ⟨c', 0, none⟩) k k, .int .i64 0]) ∧ Pr W w' q g b h c n t1 td ∧ UL w' (some ⟨c', 0, none⟩) l ∧ Flow.Into [b] w w' :=
  (Grab_ok H.pw hT k hk).mono fun e w' ⟨c', t', l', he, hg, hp, ho, _, hi⟩ => by
    obtain ⟨rfl, rfl⟩ := hg.one hG
    exact ⟨c', he, H.pool hi hp hG.len.1, UL.of_ow ho, hi⟩
theorem Pr.Take {x : Nat} (H : Pr W w q g b h c n t td) (hT : Tab W) (hk : 1 ≤ free t) (hG : Got t 1 t1 [x]) : Calls Tryd.prog 12 #[.pointer (some ⟨q, 0, none⟩)] w fun e w' =>
    e = .returned (.tuple #[.int .u32 (x : Int), .int .i64 0]) ∧ Pr W w' q g b h c n t1 td ∧ Flow.Into [b] w w' :=
  (Take_ok H.pw hT hk).mono fun e w' ⟨t', y, he, hg, hp, hi⟩ => by
    obtain ⟨rfl, hy⟩ := hg.one hG
    obtain rfl : y = x := by simpa using hy
    exact ⟨he, H.pool hi hp hG.len.1, hi⟩
theorem Pr.RMark (H : Pr W w q g b h c n t t) (hT : Tab W) {i : Nat} (hi : i < 4294967296) : Calls Tryd.prog 15 #[.slice (some ⟨h, 0, none⟩) n c, .int .u32 (i : Int)] w fun e w' =>
    ∃ h' c', e = .returned (.tuple #[.slice (some ⟨h', 0, none⟩) n c', .int .i64 (setE t i)]) ∧ Pr W w' q g b h' c' n t (setT t i) ∧ Below w.heap.size w w' :=
  (RMark_any h c n i t w H.bo H.le.2 hi W.heap.size H.hh H.pw.size).mono fun _ _ ⟨h', c', he, ho, hB, hb⟩ => ⟨h', c', he, H.doc hT hb ho hB, hb⟩
theorem Pr.Mark (H : Pr W w q g b h c n t td) (hT : Tab W) {i : Nat} (hi : i < 4294967296) : Calls Tryd.prog 16 #[.pointer (some ⟨q, 0, none⟩), .int .u32 (i : Int)] w fun e w' =>
    e = .returned (.int .i64 (setE t i)) ∧ Pr W w' q g b h c n (setT t i) td :=
  (Mark_any H.pw hT i hi).mono fun _ _ ⟨he, hp, hI⟩ => ⟨he, H.pool hI hp (setT_len _ _)⟩
theorem Pr.RGive (H : Pr W w q g b h c n t t) (hT : Tab W) {i : Nat} (hi : i < 4294967296) : Calls Tryd.prog 17 #[.slice (some ⟨h, 0, none⟩) n c, .int .u32 (i : Int)] w fun e w' =>
    ∃ h' c', e = .returned (.tuple #[.slice (some ⟨h', 0, none⟩) n c', .int .i64 (gvE t i)]) ∧ Pr W w' q g b h' c' n t (gvT t i) ∧ Below w.heap.size w w' :=
  (RGive_any h c n i t w H.bo H.le.1 H.le.2 hi W.heap.size H.hh H.pw.size).mono fun _ _ ⟨h', c', he, ho, hB, hb⟩ => ⟨h', c', he, H.doc hT hb ho hB, hb⟩
theorem Pr.Give (H : Pr W w q g b h c n t td) (hT : Tab W) {i : Nat} (hi : i < 4294967296) : Calls Tryd.prog 18 #[.pointer (some ⟨q, 0, none⟩), .int .u32 (i : Int)] w fun e w' =>
    e = .returned (.int .i64 (gvE t i)) ∧ Pr W w' q g b h c n (gvT t i) td :=
  (Give_any H.pw hT i hi).mono fun _ _ ⟨he, hp, hI⟩ => ⟨he, H.pool hI hp (gvT_len _ _)⟩
theorem Pr.Row (H : Pr W w q g b h c n t t) (hT : Tab W) : Calls Tryd.prog 19 #[.pointer (some ⟨q, 0, none⟩)] w fun e w' =>
    ∃ A c1, e = .returned (.slice A (cnt t) c1) ∧ UL w' A (tks t t.length) ∧ Pr W w' q g b h c n t t :=
  (Row_any H.pw hT).mono fun _ _ ⟨A, c1, he, hv, _, hb⟩ => ⟨A, c1, he, UL.of_vo hv, H.kept hT hb⟩
theorem Pr.RRow (H : Pr W w q g b h c n t t) (hT : Tab W) : Calls Tryd.prog 20 #[.slice (some ⟨h, 0, none⟩) n c] w fun e w' =>
    ∃ A c1, e = .returned (.slice A (cnt t) c1) ∧ UL w' A (tks t t.length) ∧ Pr W w' q g b h c n t t ∧ Below w.heap.size w w' :=
  (RRow_any h c n t w H.bo H.le.2).mono fun _ _ ⟨A, c1, he, hv, hb⟩ => ⟨A, c1, he, UL.of_vo hv, H.kept hT hb, hb⟩
theorem Pr.Has (H : Pr W w q g b h c n t t) (hT : Tab W) {i : Nat} (hi : i < 4294967296) : Calls Tryd.prog 22 #[.pointer (some ⟨q, 0, none⟩), .int .u32 (i : Int)] w fun e w' => e = .returned (.bool (t.getD i false)) ∧ Pr W w' q g b h c n t t :=
  (Has_any H.pw hT i hi).mono fun _ _ ⟨he, _, hb⟩ => ⟨he, H.kept hT hb⟩
theorem Pr.Free (H : Pr W w q g b h c n t td) : Calls Tryd.prog 8 #[.pointer (some ⟨q, 0, none⟩)] w fun e w' => e = .returned (.int .i64 (free t : Int)) ∧ w = w' := Free_any H.pw
theorem Pr.RFree (H : Pr W w q g b h c n tp t) : Calls Tryd.prog 21 #[.slice (some ⟨h, 0, none⟩) n c] w fun e w' => e = .returned (.int .i64 (free t : Int)) ∧ w = w' := RFree_any h c n t w H.bo (by have := H.le; omega)
theorem Pr.Held (H : Pr W w q g b h c n t td) : Calls Tryd.prog 9 #[.pointer (some ⟨q, 0, none⟩)] w fun e w' => e = .returned (.int .i64 (cnt t : Int)) ∧ w = w' := Held_any H.pw
end
/-- both made -/
theorem Pw.RNew {W w : World} {q g b n : Nat} (H : Pw W w q g b (tbN n)) (hT : Tab W) (h0 : 1 ≤ n) (h1 : n ≤ 65536) : Calls Tryd.prog 10 #[.int .i64 (n : Int)] w fun e w' => ∃ h c, e = .returned (.slice (some ⟨h, 0, none⟩) n c) ∧ Pr W w' q g b h c n (tbN n) (tbN n) :=
  (RNew_any n w h0 (by omega)).mono fun e w' ⟨h, c, he, ho, hh, hb⟩ => ⟨h, c, he, H.kept hT hb, ho, Nat.le_trans H.size hh, tbN_len n⟩
theorem Same_like {A A' : Option Addr} {m c c' : Nat} {l : List Nat} {w : World} (h : UL w A l) (h' : UL w A' l) (hl : l.length = m) (hm : m ≤ 1048576) :
    Calls Tryd.prog 14 #[.slice A m c, .slice A' m c'] w fun e w' => e = .returned (.bool true) ∧ Below w.heap.size w w' := by
  have := Same_any A A' m m c c' l l w h h' hl hl hm hm
  simpa using this

/-! ### the law's calls -/
def ActL (w : World) (p : Option Addr) (l : List (Int × Int × Nat)) : Prop :=
  0 < l.length → ∃ b o, p = some ⟨b, o, none⟩ ∧ ∀ i (h : i < l.length), w.cell? ⟨b, o + i * 3, none⟩ = some (.int .i64 l[i].1) ∧ w.cell? ⟨b, o + i * 3 + 1, none⟩ = some (.int .i64 l[i].2.1) ∧ w.cell? ⟨b, o + i * 3 + 2, none⟩ = some (.int .u32 (l[i].2.2 : Int)) ∧ l[i].2.2 < 4294967296
theorem ActL.at_ {w : World} {p : Option Addr} {l : List (Int × Int × Nat)} (h : ActL w p l) {i : Nat} (hi : i < l.length) : ∃ b o, p = some ⟨b, o, none⟩ ∧ w.cell? ⟨b, o + i * 3, none⟩ = some (.int .i64 l[i].1) ∧ w.cell? ⟨b, o + i * 3 + 1, none⟩ = some (.int .i64 l[i].2.1) ∧ w.cell? ⟨b, o + i * 3 + 2, none⟩ = some (.int .u32 (l[i].2.2 : Int)) ∧ l[i].2.2 < 4294967296 := by
  obtain ⟨b, o, e, hc⟩ := h (by omega)
  exact ⟨b, o, e, hc i hi⟩
theorem cell_after {W w' : World} (hb : Below W.heap.size W w') {a : Addr} {v : Value} (h : W.cell? a = some v) : w'.cell? a = some v := (hb.cell (Flow.lt_of_cell h)).trans h
/-- a call in a box of its own -/
def ABox (w : World) (b : Nat) (kd K : Int) (I : Nat) : Prop := w.heap[b]? = some (.cells #[.int .i64 kd, .int .i64 K, .int .u32 (I : Int)] 33 (0, 0))
section
variable {w w' : World} {b : Nat} {kd K : Int} {I : Nat}
theorem ABox.lt (h : ABox w b kd K I) : b < w.heap.size := (Array.getElem?_eq_some_iff.1 h).1
theorem ABox.kept (h : ABox w b kd K I) (hb : Below w.heap.size w w') : ABox w' b kd K I := (hb.block b h.lt).trans h
theorem ABox.into {T : List Nat} (h : ABox w b kd K I) (hi : Flow.Into T w w') (hn : b ∉ T) : ABox w' b kd K I := (hi.block b h.lt hn).trans h
theorem ABox.facts (h : ABox w b kd K I) : w.cell? ⟨b, 0, none⟩ = some (.int .i64 kd) ∧ w.cell? ⟨b, 1, none⟩ = some (.int .i64 K) ∧ w.cell? ⟨b, 2, none⟩ = some (.int .u32 (I : Int)) := by
  unfold ABox at h
  simp [World.cell?, h]
theorem ABox.new (w : World) (kd K : Int) (I : Nat) : ABox (w.alloc (.cells #[.int .i64 kd, .int .i64 K, .int .u32 (I : Int)] 33)) w.heap.size kd K I := heap_alloc_new w _
end
end Po
end Go.Proofs.YtndbbpdggggenaaDoor
