/-
  A device in memory: its struct, its row of blocks, and each block: nil, or a window of a row of bytes.
-/
import Derived.Test.YtjnbdmimflhhiaaOwn
import Derived.Test.YtjnbdmimflhhiaaBytes
import Derived.Test.YtjnbdmimflhhiaaDrift
namespace Go.Proofs.Ytjnbdmimflhhiaa
open Go.RowKit
namespace Dv
open Mem

/-- a block of cells that is known whole -/
def Cells (U : TypeId) (w : World) (q : Nat) (C : List Value) : Prop := w.heap[q]? = some (.cells C.toArray U (0, 0))
theorem cells_inj {U : TypeId} {w : World} {q : Nat} {L L' : List Value} (h : Cells U w q L) (h' : Cells U w q L') : L = L' := by
  unfold Cells at h h'
  rw [h] at h'
  have h3 : (Obj.cells L.toArray U (0, 0)) = .cells L'.toArray U (0, 0) := Option.some.inj h'
  have h4 : L.toArray = L'.toArray := by injection h3
  simpa using h4
theorem Cells.lt {U : TypeId} {w : World} {q : Nat} {L : List Value} (h : Cells U w q L) : q < w.heap.size := (Array.getElem?_eq_some_iff.1 h).1
theorem into_setCell (w : World) (a : Addr) (u : Value) : Flow.Into [a.block] w (w.setCell a u) :=
  ⟨rfl, rfl, rfl, by simp [World.setCell], fun k _ hn => Below.heap_setCell _ _ _ _ (by simpa using hn)⟩
/-- a window of bytes -/
def win {α : Type} (L : List α) (o m : Nat) : List α := (L.drop o).take m
theorem win_length {α : Type} {L : List α} {o m : Nat} (h : o + m ≤ L.length) : (win L o m).length = m := by simp [win]; omega
theorem win_all {α : Type} (l : List α) : win l 0 l.length = l := by simp [win]
theorem win_get {α : Type} {L : List α} {o m k : Nat} : (win L o m)[k]? = if k < m then L[o + k]? else none := by
  unfold win
  rw [List.getElem?_take]
  split
  · rw [List.getElem?_drop]
  · rfl
theorem splice_get {α : Type} {L l : List α} {o k : Nat} (h : o + l.length ≤ L.length) : (splice L o l)[k]? = if o ≤ k ∧ k < o + l.length then l[k - o]? else L[k]? := by
  unfold splice
  have ht : (L.take o).length = o := by simp; omega
  by_cases h1 : k < o
  · rw [if_neg (by omega), List.getElem?_append_left (by omega), List.getElem?_take, if_pos h1]
  · rw [List.getElem?_append_right (by omega), ht]
    by_cases h2 : k < o + l.length
    · rw [if_pos (by omega), List.getElem?_append_left (by omega)]
    · rw [if_neg (by omega), List.getElem?_append_right (by omega), List.getElem?_drop]
      congr 1; omega
theorem win_splice {α : Type} {L l : List α} {o : Nat} (h : o + l.length ≤ L.length) : win (splice L o l) o l.length = l := by
  apply List.ext_getElem?
  intro k
  rw [win_get]
  by_cases hk : k < l.length
  · rw [if_pos hk, splice_get h, if_pos (by omega)]; congr 1; omega
  · rw [if_neg hk, List.getElem?_eq_none (by omega)]
theorem win_other {α : Type} {L l : List α} {o o' m : Nat} (h : o + l.length ≤ L.length) (ha : o + l.length ≤ o' ∨ o' + m ≤ o) : win (splice L o l) o' m = win L o' m := by
  apply List.ext_getElem?
  intro k
  rw [win_get, win_get]
  by_cases hk : k < m
  · rw [if_pos hk, if_pos hk, splice_get h, if_neg (by omega)]
  · rw [if_neg hk, if_neg hk]
/-- a window reads as its bytes -/
theorem cells_win {U : TypeId} {w : World} {q : Nat} {C : List Value} (h : Cells U w q C) {o m : Nat} {x : List UInt8} (hl : o + m ≤ C.length) (hx : win C o m = bytesV x) : x.length = m ∧ BL w (some ⟨q, o, none⟩) x := by
  have hm : x.length = m := by rw [← bytesV_length, ← hx, win_length hl]
  refine ⟨hm, fun _ => ⟨q, o, rfl, fun i hi => ?_⟩⟩
  have h1 : (bytesV x)[i]? = C[o + i]? := by rw [← hx, win_get, if_pos (by omega)]
  unfold Cells at h
  simp only [World.cell?, h]
  have : C[o + i]? = some (byteV x[i]) := by rw [← h1]; simp [bytesV, hi]
  simpa using this

/-- a block of a device: nil, or a window with room -/
abbrev Bk := Option (Nat × Nat × Nat)
def bkV (m : Nat) : Bk → Value
  | none => .slice none 0 0
  | some (q, o, k) => .slice (some ⟨q, o, none⟩) m k
/-- the blocks of memory that a device has -/
def foot (g b : Nat) (bks : List Bk) : List Nat := g :: b :: bks.filterMap (·.map (·.1))
theorem foot_at {g b i q o k : Nat} {bks : List Bk} (h : bks[i]? = some (some (q, o, k))) : q ∈ foot g b bks := by
  unfold foot
  refine List.mem_cons_of_mem _ (List.mem_cons_of_mem _ (List.mem_filterMap.2 ⟨some (q, o, k), List.mem_of_getElem? h, rfl⟩))
theorem of_foot {g b q : Nat} {bks : List Bk} (h : q ∈ foot g b bks) : q = g ∨ q = b ∨ ∃ i o k : Nat, bks[i]? = some (some (q, o, k)) := by
  unfold foot at h
  rcases List.mem_cons.1 h with h | h
  · exact .inl h
  rcases List.mem_cons.1 h with h | h
  · exact .inr (.inl h)
  obtain ⟨x, hx, e⟩ := List.mem_filterMap.1 h
  cases x with
  | none => cases e
  | some x =>
    obtain ⟨q', o, k⟩ := x
    obtain rfl : q' = q := by simpa using e
    obtain ⟨i, hi⟩ := List.getElem?_of_mem hx
    exact .inr (.inr ⟨i, o, k, hi⟩)
theorem foot_set {g b i q o k x : Nat} {bks : List Bk} (h : x ∈ foot g b (bks.set i (some (q, o, k)))) : x = q ∨ x ∈ foot g b bks := by
  rcases of_foot h with rfl | rfl | ⟨j, o', k', hj⟩
  · exact .inr (by simp [foot])
  · exact .inr (by simp [foot])
  · rw [List.getElem?_set] at hj
    split at hj
    · split at hj
      · left; simp at hj; exact hj.1.symm
      · cases hj
    · exact .inr (foot_at hj)

structure DevW (w : World) (g b c m : Nat) (bks : List Bk) (ls : List (List UInt8)) (r s : Nat) : Prop where
  hd : w.heap[g]? = some (.cells #[.int .i64 (m : Int), .slice (some ⟨b, 0, none⟩) bks.length c, .int .u64 (r : Int), .int .u64 (s : Int)] 72 (0, 0))
  ow : Ow 42 w b c (bks.map (bkV m))
  len : bks.length = ls.length
  ll : ∀ l, l ∈ ls → l.length = m
  no : ∀ i : Nat, bks[i]? = some none → ls[i]? = some (List.replicate m 0)
  yes : ∀ i q o k : Nat, bks[i]? = some (some (q, o, k)) → q ≠ g ∧ q ≠ b ∧ m ≤ k ∧ ∃ C x, Cells 5 w q C ∧ o + m ≤ C.length ∧ ls[i]? = some x ∧ win C o m = bytesV x
  ap : ∀ i j q o k o' k' : Nat, i ≠ j → bks[i]? = some (some (q, o, k)) → bks[j]? = some (some (q, o', k')) → o + m ≤ o' ∨ o' + m ≤ o
section
variable {w w' : World} {g b c m : Nat} {bks : List Bk} {ls : List (List UInt8)} {r s : Nat}
theorem DevW.ne (h : DevW w g b c m bks ls r s) : g ≠ b := by
  rintro rfl
  obtain ⟨_, h2⟩ := h.ow
  rcases h2 with ⟨h', _⟩ | ⟨g', cap', cur, he, _, hh, _⟩
  · cases h'
  · obtain ⟨rfl, rfl⟩ : g = g' ∧ c = cap' := by simpa using he
    rw [h.hd] at hh
    simp at hh
theorem DevW.lt (h : DevW w g b c m bks ls r s) : ∀ k, k ∈ foot g b bks → k < w.heap.size := by
  intro k hk
  rcases of_foot hk with rfl | rfl | ⟨i, o, k', hi⟩
  · exact (Array.getElem?_eq_some_iff.1 h.hd).1
  · exact h.ow.lt
  · obtain ⟨_, _, _, C, x, hr, _⟩ := h.yes i _ _ _ hi
    exact hr.lt
theorem DevW.cells (h : DevW w g b c m bks ls r s) : w.cell? ⟨g, 0, none⟩ = some (.int .i64 (m : Int)) ∧ w.cell? ⟨g, 1, none⟩ = some (.slice (some ⟨b, 0, none⟩) bks.length c) ∧ w.cell? ⟨g, 2, none⟩ = some (.int .u64 (r : Int)) ∧ w.cell? ⟨g, 3, none⟩ = some (.int .u64 (s : Int)) := by
  have := h.hd
  simp [World.cell?, this]
theorem DevW.free (h : DevW w g b c m bks ls r s) (i : Nat) : w.frozen? ⟨g, i, none⟩ = false := by
  have := h.hd
  simp [World.frozen?, this]
theorem DevW.bfree (h : DevW w g b c m bks ls r s) (i : Nat) : w.frozen? ⟨b, i, none⟩ = false := h.ow.free i
theorem DevW.bcell (h : DevW w g b c m bks ls r s) {i : Nat} {x : Bk} (hi : bks[i]? = some x) : w.cell? ⟨b, i, none⟩ = some (bkV m x) := by
  obtain ⟨h1, h2⟩ := List.getElem?_eq_some_iff.1 hi
  rw [h.ow.cell (by simpa using h1)]; simp [h2]
theorem DevW.keep (h : DevW w g b c m bks ls r s) (hk : ∀ k, k ∈ foot g b bks → w'.heap[k]? = w.heap[k]?) : DevW w' g b c m bks ls r s :=
  ⟨(hk g (by simp [foot])).trans h.hd, h.ow.keep (hk b (by simp [foot])), h.len, h.ll, h.no, fun i q o k hi => by
    obtain ⟨h1, h2, h3, C, x, h4, h5⟩ := h.yes i q o k hi
    exact ⟨h1, h2, h3, C, x, (hk q (foot_at hi)).trans h4, h5⟩, h.ap⟩
theorem DevW.kept (h : DevW w g b c m bks ls r s) (hb : Below w.heap.size w w') : DevW w' g b c m bks ls r s := h.keep fun k hk => hb.block k (h.lt k hk)
theorem DevW.into {S : List Nat} (h : DevW w g b c m bks ls r s) (hb : Flow.Into S w w') (hn : ∀ k, k ∈ foot g b bks → k ∉ S) : DevW w' g b c m bks ls r s := h.keep fun k hk => hb.block k (h.lt k hk) (hn k hk)
theorem DevW.head (h : DevW w g b c m bks ls r s) {r' s' : Nat} (hi : Flow.Into [g] w w') (hh : w'.heap[g]? = some (.cells #[.int .i64 (m : Int), .slice (some ⟨b, 0, none⟩) bks.length c, .int .u64 (r' : Int), .int .u64 (s' : Int)] 72 (0, 0))) : DevW w' g b c m bks ls r' s' := by
  have hb : ∀ k, k ∈ foot g b bks → k ≠ g → w'.heap[k]? = w.heap[k]? := fun k hk hn => hi.block k (h.lt k hk) (by simpa using hn)
  exact ⟨hh, h.ow.keep (hb b (by simp [foot]) h.ne.symm), h.len, h.ll, h.no, fun i q o k hi => by
    obtain ⟨h1, h2, h3, C, x, h4, h5⟩ := h.yes i q o k hi
    exact ⟨h1, h2, h3, C, x, (hb q (foot_at hi) h1).trans h4, h5⟩, h.ap⟩
theorem DevW.read (h : DevW w g b c m bks ls r s) : DevW (w.setCell ⟨g, 2, none⟩ (.int .u64 ((r : Int) + 1))) g b c m bks ls (r + 1) s ∧ Flow.Into [g] w (w.setCell ⟨g, 2, none⟩ (.int .u64 ((r : Int) + 1))) := by
  have hi := into_setCell w ⟨g, 2, none⟩ (.int .u64 ((r : Int) + 1))
  refine ⟨h.head hi ?_, hi⟩
  have := h.hd
  simp [World.setCell, Array.getElem?_modify, this]
theorem DevW.wrote (h : DevW w g b c m bks ls r s) : DevW (w.setCell ⟨g, 3, none⟩ (.int .u64 ((s : Int) + 1))) g b c m bks ls r (s + 1) ∧ Flow.Into [g] w (w.setCell ⟨g, 3, none⟩ (.int .u64 ((s : Int) + 1))) := by
  have hi := into_setCell w ⟨g, 3, none⟩ (.int .u64 ((s : Int) + 1))
  refine ⟨h.head hi ?_, hi⟩
  have := h.hd
  simp [World.setCell, Array.getElem?_modify, this]
/-- a window laid into the row of blocks -/
theorem DevW.put (h : DevW w g b c m bks ls r s) {i q o k : Nat} {C : List Value} {x : List UInt8} (hi : i < bks.length) (hq : Cells 5 w q C) (hg : q ≠ g) (hb : q ≠ b) (hl : o + m ≤ C.length) (hx : win C o m = bytesV x) (hk : m ≤ k)
    (ha : ∀ j o' k' : Nat, i ≠ j → bks[j]? = some (some (q, o', k')) → o + m ≤ o' ∨ o' + m ≤ o) :
    DevW (w.setCell ⟨b, i, none⟩ (bkV m (some (q, o, k)))) g b c m (bks.set i (some (q, o, k))) (ls.set i x) r s ∧ Flow.Into [b] w (w.setCell ⟨b, i, none⟩ (bkV m (some (q, o, k)))) := by
  have hin := into_setCell w ⟨b, i, none⟩ (bkV m (some (q, o, k)))
  have hbl : ∀ x, x < w.heap.size → x ≠ b → (w.setCell ⟨b, i, none⟩ (bkV m (some (q, o, k)))).heap[x]? = w.heap[x]? := fun x hx hn => hin.block x hx (by simpa using hn)
  have hil : i < ls.length := by rw [← h.len]; exact hi
  refine ⟨⟨?_, ?_, by simp [h.len], ?_, ?_, ?_, ?_⟩, hin⟩
  · rw [hbl g (h.lt g (by simp [foot])) h.ne, h.hd, List.length_set]
  · have := (h.ow.set i (bkV m (some (q, o, k)))).1
    rw [List.map_set]; exact this
  · intro l hl'
    rcases List.mem_or_eq_of_mem_set hl' with h' | rfl
    · exact h.ll l h'
    · exact (cells_win hq hl hx).1
  · intro j hj
    rw [List.getElem?_set] at hj ⊢
    by_cases e : i = j
    · subst e; simp [hi] at hj
    · simp only [e, if_false] at hj ⊢
      exact h.no j hj
  · intro j q' o' k' hj
    rw [List.getElem?_set] at hj
    rw [List.getElem?_set]
    by_cases e : i = j
    · subst e
      simp only [if_true, hi, Option.some.injEq, Prod.mk.injEq] at hj
      obtain ⟨rfl, rfl, rfl⟩ := hj
      exact ⟨hg, hb, hk, C, x, (hbl q hq.lt hb).trans hq, hl, by simp [hil], hx⟩
    · simp only [e, if_false] at hj ⊢
      obtain ⟨h1, h2, h3, C', x', h4, h5, h6⟩ := h.yes j q' o' k' hj
      exact ⟨h1, h2, h3, C', x', (hbl q' h4.lt h2).trans h4, h5, h6⟩
  · intro j j' q' o1 k1 o2 k2 hn h1 h2
    rw [List.getElem?_set] at h1 h2
    by_cases e : i = j
    · subst e
      have e' : ¬ i = j' := hn
      simp only [if_true, hi, Option.some.injEq, Prod.mk.injEq] at h1
      simp only [e', if_false] at h2
      obtain ⟨rfl, rfl, rfl⟩ := h1
      exact ha j' o2 k2 hn h2
    · simp only [e, if_false] at h1
      by_cases e' : i = j'
      · subst e'
        simp only [if_true, hi, Option.some.injEq, Prod.mk.injEq] at h2
        obtain ⟨rfl, rfl, rfl⟩ := h2
        rcases ha j o1 k1 (Ne.symm hn) h1 with h' | h'
        · exact .inr h'
        · exact .inl h'
      · simp only [e', if_false] at h2
        exact h.ap j j' q' o1 k1 o2 k2 hn h1 h2
/-- a block's bytes written anew -/
theorem DevW.splice (h : DevW w g b c m bks ls r s) {i q o k : Nat} {C : List Value} {l : List UInt8} (hi : bks[i]? = some (some (q, o, k))) (hq : Cells 5 w q C) (hl : l.length = m) (hw : Flow.Into [q] w w') (hq' : Cells 5 w' q (Go.splice C o (bytesV l))) : DevW w' g b c m bks (ls.set i l) r s := by
  obtain ⟨hg, hb, hk, L0, x0, h4, h5, h6, h7⟩ := h.yes i q o k hi
  obtain rfl := cells_inj hq h4
  have hfit : o + (bytesV l).length ≤ C.length := by rw [bytesV_length]; omega
  have hbl : ∀ x, x < w.heap.size → x ≠ q → w'.heap[x]? = w.heap[x]? := fun x hx hn => hw.block x hx (by simpa using hn)
  have hil : i < ls.length := (List.getElem?_eq_some_iff.1 h6).1
  refine ⟨?_, h.ow.keep (hbl b (h.lt b (by simp [foot])) hb.symm), by simp [h.len], ?_, ?_, ?_, h.ap⟩
  · rw [hbl g (h.lt g (by simp [foot])) hg.symm, h.hd]
  · intro l' hl'
    rcases List.mem_or_eq_of_mem_set hl' with h' | rfl
    · exact h.ll l' h'
    · exact hl
  · intro j hj
    rw [List.getElem?_set]
    by_cases e : i = j
    · subst e; rw [hi] at hj; cases hj
    · simp only [e, if_false]; exact h.no j hj
  · intro j q' o' k' hj
    rw [List.getElem?_set]
    obtain ⟨g1, g2, g3, C', x', g4, g5, g6, g7⟩ := h.yes j q' o' k' hj
    by_cases eq : q' = q
    · subst eq
      obtain rfl := cells_inj hq g4
      by_cases e : i = j
      · subst e
        rw [hi] at hj
        simp only [Option.some.injEq, Prod.mk.injEq] at hj
        obtain ⟨-, rfl, rfl⟩ := hj
        refine ⟨g1, g2, g3, _, l, hq', by rw [length_splice C o (bytesV l) hfit]; exact g5, by simp [hil], ?_⟩
        have := win_splice hfit
        rw [bytesV_length, hl] at this
        exact this
      · refine ⟨g1, g2, g3, _, x', hq', by rw [length_splice C o (bytesV l) hfit]; exact g5, by simp only [e, if_false]; exact g6, ?_⟩
        rw [win_other hfit, g7]
        rw [bytesV_length, hl]
        exact h.ap i j q' o k o' k' e hi hj
    · refine ⟨g1, g2, g3, C', x', (hbl q' g4.lt eq).trans g4, g5, ?_, g7⟩
      by_cases e : i = j
      · subst e
        rw [hi] at hj
        simp only [Option.some.injEq, Prod.mk.injEq] at hj
        exact absurd hj.1.symm eq
      · simp only [e, if_false]; exact g6
end

/-- a device whose memory lies in the blocks S -/
structure Dev (w : World) (S : List Nat) (g m : Nat) (ls : List (List UInt8)) (r s : Nat) : Prop where
  ex : ∃ b c bks, DevW w g b c m bks ls r s ∧ ∀ k, k ∈ foot g b bks → k ∈ S
  m1 : 1 ≤ m
  m2 : m ≤ 65536
  n1 : 5 ≤ ls.length
  n2 : ls.length ≤ 65536
  lt : ∀ k, k ∈ S → k < w.heap.size
/-- what a footprint may have become -/
def Grew (w : World) (S S' : List Nat) : Prop := ∀ k, k ∈ S' → k ∈ S ∨ w.heap.size ≤ k
section
variable {w w' : World} {S : List Nat} {g m : Nat} {ls : List (List UInt8)} {r s : Nat}
theorem Dev.keep (h : Dev w S g m ls r s) (hk : ∀ k, k ∈ S → w'.heap[k]? = w.heap[k]?) : Dev w' S g m ls r s := by
  obtain ⟨⟨b, c, bks, h1, h2⟩, h3, h4, h5, h6, h7⟩ := h
  exact ⟨⟨b, c, bks, h1.keep fun k hk' => hk k (h2 k hk'), h2⟩, h3, h4, h5, h6, fun k hk' => (Array.getElem?_eq_some_iff.1 ((hk k hk').trans (Array.getElem?_eq_getElem (h7 k hk')))).1⟩
theorem Dev.kept (h : Dev w S g m ls r s) (hb : Below w.heap.size w w') : Dev w' S g m ls r s := by
  obtain ⟨⟨b, c, bks, h1, h2⟩, h3, h4, h5, h6, h7⟩ := h
  exact ⟨⟨b, c, bks, h1.kept hb, h2⟩, h3, h4, h5, h6, fun k hk => Nat.lt_of_lt_of_le (h7 k hk) hb.size⟩
theorem Dev.into {S' : List Nat} (h : Dev w S g m ls r s) (hb : Flow.Into S' w w') (hn : ∀ k, k ∈ S → k ∉ S') : Dev w' S g m ls r s := by
  obtain ⟨⟨b, c, bks, h1, h2⟩, h3, h4, h5, h6, h7⟩ := h
  exact ⟨⟨b, c, bks, h1.into hb fun k hk => hn k (h2 k hk), h2⟩, h3, h4, h5, h6, fun k hk => Nat.lt_of_lt_of_le (h7 k hk) hb.size⟩
theorem Dev.g_in (h : Dev w S g m ls r s) : g ∈ S := by
  obtain ⟨⟨b, c, bks, h1, h2⟩, _⟩ := h
  exact h2 g (by simp [foot])
theorem Dev.cells (h : Dev w S g m ls r s) : ∃ b c, w.cell? ⟨g, 0, none⟩ = some (.int .i64 (m : Int)) ∧ w.cell? ⟨g, 1, none⟩ = some (.slice (some ⟨b, 0, none⟩) ls.length c) ∧ w.cell? ⟨g, 2, none⟩ = some (.int .u64 (r : Int)) ∧ w.cell? ⟨g, 3, none⟩ = some (.int .u64 (s : Int)) := by
  obtain ⟨⟨b, c, bks, h1, h2⟩, _⟩ := h
  have := h1.cells
  rw [h1.len] at this
  exact ⟨b, c, this⟩
end
/-- only blocks from B on have turned -/
theorem below_of_into {S : List Nat} {B : Nat} {w w' : World} (h : Flow.Into S w w') (hS : ∀ k, k ∈ S → B ≤ k) (hB : B ≤ w.heap.size) : Below B w w' :=
  ⟨h.os, h.tape, h.output, h.size, fun k hk => h.block k (by omega) fun hh => by have := hS k hh; omega⟩
/-- copy of bytes into a window of a row -/
theorem wpList_copy_into {P : Program} {w : World} {ops : Array Oper} {rest : List Oper} {o : Oper} {a : Act} {Q : Exit → Act → World → Prop} (hgd : o.guard = none) (d s : Operand) (dT sT : TypeId)
    (ho : o.op = .call { callee := .builtin .copy, args := #[d, s], argTypes := #[dT, sT] }) (U : TypeId) (hu : P.underlying dT = some (.slice U)) (hsz : (P.info? U).map (·.size) = some 1)
    (q off n c1 m c2 : Nat) (sp : Option Addr) (hd : a.eval d = .slice (some ⟨q, off, none⟩) n c1) (hs : a.eval s = .slice sp m c2)
    (L : List Value) (l : List UInt8) (hg : Cells U w q L) (hl : l.length = m) (hb : BL w sp l) (hmn : m ≤ n) (hn : off + n ≤ L.length)
    (h : ∀ w', Hid (Cells U w' q (splice L off (bytesV l))) → Hid (Flow.Into [q] w w') → wpList P ops Q rest (a.put o.dst (goInt m)) w') : wpList P ops Q (o :: rest) a w := by
  subst hl
  by_cases h0 : l.length = 0
  · obtain rfl : l = [] := List.eq_nil_of_length_eq_zero h0
    refine wpList_copy_nothing hgd d s dT sT ho U hu hsz _ sp n c1 0 c2 hd hs (by simp) ?_
    exact h w (by unfold Hid; simpa [splice, bytesV] using hg) (by unfold Hid; exact Flow.Into.refl _ _)
  · obtain ⟨b, o', rfl, hc⟩ := hb (by omega)
    refine wpList_copy_own hgd d s dT sT ho U hu hsz q off n c1 ⟨b, o', none⟩ l.length c2 hd hs L.toArray U hg (bytesV l) (by simpa using (Nat.min_eq_left hmn).symm) (fun j v hj => ?_) (by simp; omega) (bytesV_one l) ?_
    · have hjl : j < l.length := by
        rcases Nat.lt_or_ge j l.length with h' | h'
        · exact h'
        · rw [List.getElem?_eq_none (by simpa using h')] at hj; cases hj
      have hv : v = byteV l[j] := by simpa [bytesV, hjl] using hj.symm
      rw [hv, ← hc j hjl]
      by_cases h0 : j = 0 <;> simp [Addr.add, h0]
    · rw [bytesV_length]
      refine h _ ?_ ?_
      · unfold Hid Cells
        have := setRow_heap w q _ (splice L off (bytesV l)).toArray U _ hg
        simpa [splice] using this
      · unfold Hid
        exact ⟨rfl, rfl, rfl, by simp [World.setRow], fun k _ hk => setRow_other w q k _ (by simpa using hk)⟩
end Dv
end Go.Proofs.Ytjnbdmimflhhiaa
