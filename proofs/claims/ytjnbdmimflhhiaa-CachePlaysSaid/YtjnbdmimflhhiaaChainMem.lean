/-
  A chain in memory: its struct, its links.
-/
import Derived.Test.YtjnbdmimflhhiaaChecked
import Derived.Test.YtjnbdmimflhhiaaChainPlain
import Derived.Test.YtjnbdmimflhhiaaOwn
import Derived.Test.YtjnbdmimflhhiaaInts
import Derived.Test.YtjnbdmimflhhiaaDrift
import Derived.WalkSpells
namespace Go.Proofs.Ytjnbdmimflhhiaa
open Go.RowKit
namespace Cn
open Mem

theorem ret_bool {a b : Bool} (h : a = b) : Ending.returned (.bool a) = .returned (.bool b) := by rw [h]
theorem ret_i64 {a b : Int} (h : a = b) : Ending.returned (.int .i64 a) = .returned (.int .i64 b) := by rw [h]
/-- the links in block b: two cells each -/
def LkW (w : World) (b c m : Nat) (A B : Nat → Nat) : Prop :=
  ∃ cs : List Value, w.ownsRow 0 103 2 (.slice (some ⟨b, 0, none⟩) m c) m cs ∧ ∀ i, i < m → cs[i * 2]? = some (.int .i64 (A i : Int)) ∧ cs[i * 2 + 1]? = some (.int .i64 (B i : Int))
section
variable {w w' : World} {b c m : Nat} {A B : Nat → Nat}
theorem LkW.heap (h : LkW w b c m A B) : ∃ cur, w.heap[b]? = some (.cells cur 103 (0, 0)) := by
  obtain ⟨cs, ⟨_, h2⟩, _⟩ := h
  rcases h2 with ⟨h', _⟩ | ⟨g', cap', cur, he, _, hh, _⟩
  · cases h'
  · obtain ⟨rfl, _⟩ : b = g' ∧ c = cap' := by simpa using he
    exact ⟨cur, hh⟩
theorem LkW.lt (h : LkW w b c m A B) : b < w.heap.size := by
  obtain ⟨cur, hh⟩ := h.heap
  exact (Array.getElem?_eq_some_iff.1 hh).1
theorem LkW.cellA (h : LkW w b c m A B) {i : Nat} (hi : i < m) : w.cell? ⟨b, i * 2, none⟩ = some (.int .i64 (A i : Int)) := by
  obtain ⟨cs, h1, h2⟩ := h
  rw [World.ownsRow.cellAt h1 (i * 2) (by omega)]; exact (h2 i hi).1
theorem LkW.cellB (h : LkW w b c m A B) {i : Nat} (hi : i < m) : w.cell? ⟨b, i * 2 + 1, none⟩ = some (.int .i64 (B i : Int)) := by
  obtain ⟨cs, h1, h2⟩ := h
  rw [World.ownsRow.cellAt h1 (i * 2 + 1) (by omega)]; exact (h2 i hi).2
theorem LkW.free (h : LkW w b c m A B) (j : Nat) : w.frozen? ⟨b, j, none⟩ = false := by
  obtain ⟨cs, h1, h2⟩ := h
  exact World.ownsRow.frozenAt h1 j
theorem LkW.keep (h : LkW w b c m A B) (hk : w'.heap[b]? = w.heap[b]?) : LkW w' b c m A B := by
  obtain ⟨cs, ⟨h1, h2⟩, h3⟩ := h
  refine ⟨cs, ⟨h1, ?_⟩, h3⟩
  rcases h2 with h | ⟨g', cap', cur, he, hB, hh, hr⟩
  · exact .inl h
  · obtain ⟨rfl, rfl⟩ : b = g' ∧ c = cap' := by simpa using he
    exact .inr ⟨b, c, cur, rfl, hB, hk.trans hh, hr⟩
theorem LkW.len {cs : List Value} (h : w.ownsRow 0 103 2 (.slice (some ⟨b, 0, none⟩) m c) m cs) : cs.length = m * 2 := h.1
theorem LkW.setA (h : LkW w b c m A B) {i : Nat} (hi : i < m) (x : Nat) : LkW (w.setCell ⟨b, i * 2, none⟩ (.int .i64 (x : Int))) b c m (upd A i x) B := by
  obtain ⟨cs, h1, h2⟩ := h
  have hl := LkW.len h1
  refine ⟨_, (World.ownsRow.stored h1 (i * 2) _).1, fun j hj => ?_⟩
  rw [List.getElem?_set, List.getElem?_set]
  by_cases hij : i = j
  · subst hij
    refine ⟨?_, ?_⟩
    · rw [if_pos rfl, if_pos (by omega), upd_same]
    · rw [if_neg (by omega)]; exact (h2 i hj).2
  · refine ⟨?_, ?_⟩
    · rw [if_neg (by omega), upd_other _ _ (fun e => hij e.symm)]; exact (h2 j hj).1
    · rw [if_neg (by omega)]; exact (h2 j hj).2
theorem LkW.setB (h : LkW w b c m A B) {i : Nat} (hi : i < m) (x : Nat) : LkW (w.setCell ⟨b, i * 2 + 1, none⟩ (.int .i64 (x : Int))) b c m A (upd B i x) := by
  obtain ⟨cs, h1, h2⟩ := h
  have hl := LkW.len h1
  refine ⟨_, (World.ownsRow.stored h1 (i * 2 + 1) _).1, fun j hj => ?_⟩
  rw [List.getElem?_set, List.getElem?_set]
  by_cases hij : i = j
  · subst hij
    refine ⟨?_, ?_⟩
    · rw [if_neg (by omega)]; exact (h2 i hj).1
    · rw [if_pos rfl, if_pos (by omega), upd_same]
  · refine ⟨?_, ?_⟩
    · rw [if_neg (by omega)]; exact (h2 j hj).1
    · rw [if_neg (by omega), upd_other _ _ (fun e => hij e.symm)]; exact (h2 j hj).2
end
/-- a chain: its struct in block g, its links in block b; k is its count -/
structure ChW (w : World) (g b c n : Nat) (k : Int) (A B : Nat → Nat) : Prop where
  hd : w.heap[g]? = some (.cells #[.slice (some ⟨b, 0, none⟩) (n + 1) c, .int .i64 k] 105 (0, 0))
  lk : LkW w b c (n + 1) A B
  lo : 1 ≤ n
  hi : n ≤ 4096
section
variable {w w' : World} {g b c n : Nat} {k : Int} {A B : Nat → Nat}
theorem ChW.g_lt (h : ChW w g b c n k A B) : g < w.heap.size := (Array.getElem?_eq_some_iff.1 h.hd).1
theorem ChW.ne (h : ChW w g b c n k A B) : g ≠ b := by
  rintro rfl
  obtain ⟨cur, hh⟩ := h.lk.heap
  rw [h.hd] at hh
  simp at hh
theorem ChW.cells (h : ChW w g b c n k A B) : w.cell? ⟨g, 0, none⟩ = some (.slice (some ⟨b, 0, none⟩) (n + 1) c) ∧ w.cell? ⟨g, 1, none⟩ = some (.int .i64 k) := by
  have := h.hd
  simp [World.cell?, this]
theorem ChW.gfree (h : ChW w g b c n k A B) (j : Nat) : w.frozen? ⟨g, j, none⟩ = false := by
  have := h.hd
  simp [World.frozen?, this]
theorem ChW.keep (h : ChW w g b c n k A B) (hg : w'.heap[g]? = w.heap[g]?) (hb : w'.heap[b]? = w.heap[b]?) : ChW w' g b c n k A B := ⟨hg.trans h.hd, h.lk.keep hb, h.lo, h.hi⟩
theorem ChW.kept (h : ChW w g b c n k A B) (hb : Below w.heap.size w w') : ChW w' g b c n k A B := h.keep (hb.block g h.g_lt) (hb.block b h.lk.lt)
theorem into_set {S : List Nat} (w : World) (a : Addr) (v : Value) (ha : a.block ∈ S) : Flow.Into S w (w.setCell a v) :=
  ⟨rfl, rfl, rfl, by simp [World.setCell], fun k _ hn => Below.heap_setCell _ _ _ _ (by rintro rfl; exact hn ha)⟩
theorem ChW.setA (h : ChW w g b c n k A B) {i : Nat} (hi : i ≤ n) (x : Nat) : ChW (w.setCell ⟨b, i * 2, none⟩ (.int .i64 (x : Int))) g b c n k (upd A i x) B :=
  ⟨(Below.heap_setCell _ _ _ _ h.ne).trans h.hd, h.lk.setA (by omega) x, h.lo, h.hi⟩
theorem ChW.setB (h : ChW w g b c n k A B) {i : Nat} (hi : i ≤ n) (x : Nat) : ChW (w.setCell ⟨b, i * 2 + 1, none⟩ (.int .i64 (x : Int))) g b c n k A (upd B i x) :=
  ⟨(Below.heap_setCell _ _ _ _ h.ne).trans h.hd, h.lk.setB (by omega) x, h.lo, h.hi⟩
theorem ChW.setK (h : ChW w g b c n k A B) (k' : Int) : ChW (w.setCell ⟨g, 1, none⟩ (.int .i64 k')) g b c n k' A B := by
  refine ⟨?_, h.lk.keep (Below.heap_setCell _ _ _ _ (fun e => h.ne e.symm)), h.lo, h.hi⟩
  have := h.hd
  have hg := h.g_lt
  simp only [World.setCell, Array.getElem?_modify, this]
  simp
end
/-- a chain whose row is l -/
def Chn (w : World) (g b n : Nat) (l : List Nat) : Prop := ∃ c A B, ChW w g b c n (l.length : Int) A B ∧ Ring n A B l
section
variable {w w' : World} {g b n : Nat} {l : List Nat}
theorem Chn.kept (h : Chn w g b n l) (hb : Below w.heap.size w w') : Chn w' g b n l := by
  obtain ⟨c, A, B, h1, h2⟩ := h; exact ⟨c, A, B, h1.kept hb, h2⟩
theorem Chn.into {S : List Nat} (h : Chn w g b n l) (hb : Flow.Into S w w') (hg : g ∉ S) (hbb : b ∉ S) : Chn w' g b n l := by
  obtain ⟨c, A, B, h1, h2⟩ := h; exact ⟨c, A, B, h1.keep (hb.block g h1.g_lt hg) (hb.block b h1.lk.lt hbb), h2⟩
theorem Chn.lt (h : Chn w g b n l) : g < w.heap.size ∧ b < w.heap.size ∧ g ≠ b ∧ 1 ≤ n ∧ n ≤ 4096 ∧ l.length ≤ n ∧ l.Nodup ∧ ∀ x ∈ l, x < n := by
  obtain ⟨c, A, B, h1, h2⟩ := h; exact ⟨h1.g_lt, h1.lk.lt, h1.ne, h1.lo, h1.hi, h2.len_le, h2.nd, h2.lt⟩
end
end Cn
end Go.Proofs.Ytjnbdmimflhhiaa
