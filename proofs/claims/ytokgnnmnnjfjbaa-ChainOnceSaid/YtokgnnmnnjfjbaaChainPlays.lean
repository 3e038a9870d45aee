/-
  A chain beside the document's row; what they tell. ChainPlays where there is no chain.
-/
import Derived.Test.YtokgnnmnnjfjbaaChainAwake
namespace Go.Proofs.Ytokgnnmnnjfjbaa
open Go.RowKit
namespace Cn
open Mem

theorem rowZ_contains (l : List Nat) (i : Int) : (rowZ l).contains i = hasR l i := by
  by_cases h0 : 0 ≤ i
  · obtain ⟨k, rfl⟩ : ∃ k : Nat, i = k := ⟨i.toNat, by omega⟩
    rw [hasR_nat, Bool.eq_iff_iff]
    simp only [List.contains_iff_mem, rowZ, List.mem_map]
    constructor
    · rintro ⟨x, hx, e⟩
      have : x = k := by have := e; simp at this; omega
      exact this ▸ hx
    · intro h; exact ⟨k, h, rfl⟩
  · have h1 : hasR l i = false := by simp [hasR, h0]
    rw [h1, Bool.eq_false_iff]
    intro h
    simp only [List.contains_iff_mem, rowZ, List.mem_map] at h
    obtain ⟨x, _, rfl⟩ := h
    exact h0 (by simp)
theorem rowZ_cut (l : List Nat) (k : Nat) : cutZ (rowZ l) (k : Int) = rowZ (del l k) := by
  unfold cutZ rowZ del
  rw [List.filter_map]
  congr 1
  refine List.filter_congr fun x _ => ?_
  rw [Bool.eq_iff_iff]
  simp [Function.comp]
  omega
theorem rowZ_get {l : List Nat} {i : Nat} (h : i < l.length) : (rowZ l)[i]'(by simpa using h) = (l[i] : Int) := by simp [rowZ]
theorem lst_get (x : Nat) : ∀ (l : List Nat) (h : 0 < l.length), lst x l = l[l.length - 1]
  | [y], _ => rfl
  | y :: z :: r, _ => by
    have := lst_get y (z :: r) (by simp)
    simpa [lst] using this

/-- a chain whose row is l beside a list of ints of m numbers that reads as l2 -/
structure Ps (W w : World) (g b n m : Nat) (l l2 : List Nat) (A : Option Addr) : Prop where
  cr : Cr W w g b n l
  il : IL w A (rowZ l2)
  ap : ∀ a, A = some a → a.block ∉ [g, b]
  len : m = l2.length
  hm : m ≤ 4096
section
variable {W w w' : World} {g b n m : Nat} {l l2 : List Nat} {A : Option Addr}
theorem Ps.kept (h : Ps W w g b n m l l2 A) (hb : Below w.heap.size w w') : Ps W w' g b n m l l2 A := ⟨h.cr.kept hb, h.il.below hb, h.ap, h.len, h.hm⟩
theorem Ps.turn {l' : List Nat} (h : Ps W w g b n m l l2 A) (hc : Cr W w' g b n l') (hi : Flow.Into [g, b] w w') : Ps W w' g b n m l' l2 A := ⟨hc, h.il.into hi h.ap, h.ap, h.len, h.hm⟩
theorem Ps.other {l' : List Nat} {A' : Option Addr} {c : Nat} (h : Ps W w g b n m l l2 A) (hb : Below w.heap.size w w') (ho : Iow 3 w' w.heap.size A' c (rowZ l')) (hl : l'.length ≤ 4096) : Ps W w' g b n l'.length l l' A' := by
  have hlt := h.cr.ch.lt
  refine ⟨h.cr.kept hb, ho.il, fun a ha => ?_, rfl, hl⟩
  have := ho.from_ a ha
  simp; omega
theorem Ps.Front (h : Ps W w g b n m l l2 A) (i : Int) : Calls Try.prog 8 #[.pointer (some ⟨g, 0, none⟩), .int .i64 i] w fun e w' => e = .returned (.int .i64 (errE n i)) ∧ Ps W w' g b n m (fronT n l i) l2 A :=
  (h.cr.Front i).mono fun _ _ ⟨he, hc, hi⟩ => ⟨he, h.turn hc hi⟩
theorem Ps.Back (h : Ps W w g b n m l l2 A) (i : Int) : Calls Try.prog 10 #[.pointer (some ⟨g, 0, none⟩), .int .i64 i] w fun e w' => e = .returned (.int .i64 (errE n i)) ∧ Ps W w' g b n m (backT n l i) l2 A :=
  (h.cr.Back i).mono fun _ _ ⟨he, hc, hi⟩ => ⟨he, h.turn hc hi⟩
theorem Ps.Cut (h : Ps W w g b n m l l2 A) (i : Int) : Calls Try.prog 12 #[.pointer (some ⟨g, 0, none⟩), .int .i64 i] w fun e w' => e = .returned (.int .i64 (cutE n l i)) ∧ Ps W w' g b n m (cutT n l i) l2 A :=
  (h.cr.Cut i).mono fun _ _ ⟨he, hc, hi⟩ => ⟨he, h.turn hc hi⟩
theorem Ps.RHas (h : Ps W w g b n m l l2 A) (c : Nat) (i : Int) : Calls Try.prog 13 #[.slice A m c, .int .i64 i] w fun e w' => e = .returned (.bool (hasR l2 i)) ∧ w = w' := by
  have hm := h.hm
  have hl := h.len
  have := RHas_any A c (rowZ l2) i w h.il (by simp; omega)
  rw [rowZ_contains, rowZ_length, ← hl] at this
  exact this
/-- the row told, and held against the list -/
theorem Ps.Same (h : Ps W w g b n m l l A) (c c' : Nat) (A' : Option Addr) (hA : IL w A' (rowZ l)) : Calls Try.prog 17 #[.slice A' m c', .slice A m c] w fun e w' => e = .returned (.bool true) ∧ Ps W w' g b n m l l A := by
  have hm := h.hm
  have hl := h.len
  have := RSame_any A' A c' c (rowZ l) (rowZ l) w hA h.il (by simp; omega) (by simp; omega)
  rw [rowZ_length, ← hl] at this
  exact this.mono fun _ _ ⟨he, hb⟩ => ⟨by simpa using he, h.kept hb⟩
theorem Ps.Row (h : Ps W w g b n m l l A) : Calls Try.prog 18 #[.pointer (some ⟨g, 0, none⟩)] w fun e w' => ∃ A' c', e = .returned (.slice A' m c') ∧ IL w' A' (rowZ l) ∧ Ps W w' g b n m l l A := by
  have hl := h.len
  exact (Row_call h.cr.ch).mono fun _ _ ⟨⟨A', c', he, ho⟩, hb⟩ => ⟨A', c', by rw [he, hl], ho.il, h.kept hb⟩
theorem Ps.RFront {L : List Nat} (h : Ps W w g b n m L l2 A) (c : Nat) {k : Nat} (hl' : (k :: del l2 k).length ≤ 4096) : Calls Try.prog 9 #[.slice A m c, .int .i64 (k : Int)] w fun e w' => ∃ A' c', e = .returned (.slice A' (k :: del l2 k).length c') ∧ Ps W w' g b n (k :: del l2 k).length L (k :: del l2 k) A' := by
  have hm := h.hm
  have hl := h.len
  have := RFront_any A c (rowZ l2) k w h.il (by simp; omega)
  rw [rowZ_cut, rowZ_length, ← hl] at this
  refine this.mono fun e w' ⟨⟨A', c', he, ho⟩, hb⟩ => ⟨A', c', ?_, h.other hb ho hl'⟩
  rw [he]; simp
theorem Ps.RBack {L : List Nat} (h : Ps W w g b n m L l2 A) (c : Nat) {k : Nat} (hl' : (del l2 k ++ [k]).length ≤ 4096) : Calls Try.prog 11 #[.slice A m c, .int .i64 (k : Int)] w fun e w' => ∃ A' c', e = .returned (.slice A' (del l2 k ++ [k]).length c') ∧ Ps W w' g b n (del l2 k ++ [k]).length L (del l2 k ++ [k]) A' := by
  have hm := h.hm
  have hl := h.len
  have := RBack_any A c (rowZ l2) k w h.il (by simp; omega)
  rw [rowZ_cut, rowZ_length, ← hl, show rowZ (del l2 k) ++ [(k : Int)] = rowZ (del l2 k ++ [k]) by simp [rowZ]] at this
  refine this.mono fun e w' ⟨⟨A', c', he, ho⟩, hb⟩ => ⟨A', c', ?_, h.other hb ho hl'⟩
  rw [he]; simp
theorem Ps.RCut {L : List Nat} (h : Ps W w g b n m L l2 A) (c : Nat) {k : Nat} (hl' : (del l2 k).length ≤ 4096) : Calls Try.prog 14 #[.slice A m c, .int .i64 (k : Int)] w fun e w' => ∃ A' c', e = .returned (.slice A' (del l2 k).length c') ∧ Ps W w' g b n (del l2 k).length L (del l2 k) A' := by
  have hm := h.hm
  have hl := h.len
  have := RCut_any A c (rowZ l2) k w h.il (by simp; omega)
  rw [rowZ_cut, rowZ_length, ← hl] at this
  refine this.mono fun e w' ⟨⟨A', c', he, ho⟩, hb⟩ => ⟨A', c', ?_, h.other hb ho hl'⟩
  rw [he]; simp
end
/-- what a pair of like rows tells, wherever it stands -/
structure Tell (W : World) (g b n m : Nat) (l : List Nat) (A : Option Addr) (ask a z : Int) (x v : Bool) : Prop where
  fi : ∀ w, Ps W w g b n m l l A → Calls Try.prog 15 #[.pointer (some ⟨g, 0, none⟩)] w fun e w' => e = .returned (.tuple #[.int .i64 a, .bool x]) ∧ Ps W w' g b n m l l A
  la : ∀ w, Ps W w g b n m l l A → Calls Try.prog 16 #[.pointer (some ⟨g, 0, none⟩)] w fun e w' => e = .returned (.tuple #[.int .i64 z, .bool x]) ∧ Ps W w' g b n m l l A
  le : ∀ w, Ps W w g b n m l l A → Calls Try.prog 19 #[.pointer (some ⟨g, 0, none⟩)] w fun e w' => e = .returned (.int .i64 (m : Int)) ∧ w = w'
  ha : ∀ w, Ps W w g b n m l l A → Calls Try.prog 20 #[.pointer (some ⟨g, 0, none⟩), .int .i64 ask] w fun e w' => e = .returned (.bool v) ∧ w = w'
  rh : ∀ w c, Ps W w g b n m l l A → Calls Try.prog 13 #[.slice A m c, .int .i64 ask] w fun e w' => e = .returned (.bool v) ∧ w = w'
section
variable {W w : World} {g b n m : Nat} {l : List Nat} {A : Option Addr}
theorem Ps.tell (h : Ps W w g b n m l l A) (ask : Int) : Tell W g b n m l A ask (l.headD 0 : Nat) (lst 0 l : Nat) (decide (0 < l.length)) (hasR l ask) := by
  refine ⟨fun w h => (CFirst h.cr.ch).mono fun e w' ⟨he, hb⟩ => ⟨he, h.kept hb⟩, fun w h => (CLast h.cr.ch).mono fun e w' ⟨he, hb⟩ => ⟨he, h.kept hb⟩, fun w h => ?_, fun w h => CHas h.cr.ch ask, fun w c h => h.RHas c ask⟩
  have := CLen h.cr.ch
  rw [← h.len] at this
  exact this
/-- an empty row -/
theorem Ps.tell_nil (h : Ps W w g b n m l l A) (h0 : m = 0) (ask : Int) : ∃ v, Tell W g b n 0 l A ask 0 0 false v := by
  have hl := h.len
  have ht := h.tell ask
  subst h0
  obtain rfl : l = [] := List.eq_nil_of_length_eq_zero hl.symm
  exact ⟨_, ht⟩
/-- a row that is not empty -/
theorem Ps.tell_pos (h : Ps W w g b n m l l A) (h0 : 0 < m) (ask : Int) : ∃ a z v h o, A = some ⟨h, o, none⟩ ∧ Tell W g b n m l A ask a z true v ∧
    ∀ w, Ps W w g b n m l l A → w.cell? ⟨h, o, none⟩ = some (.int .i64 a) ∧ w.cell? ⟨h, o + (m - 1), none⟩ = some (.int .i64 z) := by
  have hl := h.len
  have ht := h.tell ask
  have hp : 0 < l.length := by omega
  rw [show decide (0 < l.length) = true by simpa using hp] at ht
  obtain ⟨hb, o, rfl, _⟩ := h.il (by simpa using hp)
  refine ⟨_, _, _, hb, o, rfl, ht, fun w h => ?_⟩
  obtain ⟨b', o', e, hc⟩ := h.il (by simpa using hp)
  obtain ⟨rfl, rfl⟩ : hb = b' ∧ o = o' := by simpa using e
  have c0 := hc 0 (by simpa using hp)
  have c1 := hc (m - 1) (by simp; omega)
  rw [rowZ_get (by omega)] at c0 c1
  have e0 : l.headD 0 = l[0] := by
    cases l with
    | nil => cases hp
    | cons y r => rfl
  have e1 : lst 0 l = l[m - 1]'(by omega) := by
    rw [lst_get 0 l hp]
    congr 1
    omega
  rw [e0, e1]
  exact ⟨c0, c1⟩
end

/-- a slice of calls: kind and number -/
def ActL (w : World) (p : Option Addr) (l : List (Int × Int)) : Prop :=
  0 < l.length → ∃ b o, p = some ⟨b, o, none⟩ ∧ ∀ i (h : i < l.length), w.cell? ⟨b, o + i * 2, none⟩ = some (.int .i64 l[i].1) ∧ w.cell? ⟨b, o + i * 2 + 1, none⟩ = some (.int .i64 l[i].2)
theorem ActL.at_ {w : World} {p : Option Addr} {l : List (Int × Int)} (h : ActL w p l) {i : Nat} (hi : i < l.length) : ∃ b o, p = some ⟨b, o, none⟩ ∧ w.cell? ⟨b, o + i * 2, none⟩ = some (.int .i64 l[i].1) ∧ w.cell? ⟨b, o + i * 2 + 1, none⟩ = some (.int .i64 l[i].2) := by
  obtain ⟨b, o, e, hc⟩ := h (by omega)
  exact ⟨b, o, e, hc i hi⟩
theorem cell_after {W w' : World} (hb : Below W.heap.size W w') {a : Addr} {v : Value} (h : W.cell? a = some v) : w'.cell? a = some v := (hb.cell (Flow.lt_of_cell h)).trans h

set_option maxHeartbeats 4000000 in
set_option maxRecDepth 100000 in
theorem ChainPlays_out (n : Int) (v : Value) (ask : Int) (w : World) (h : ¬ (1 ≤ n ∧ n ≤ 4096)) :
    Calls Try.prog 3 #[.int .i64 n, v, .int .i64 ask] w fun e w' => e = .returned (.bool true) ∧ Below w.heap.size w w' := by
  have cA := fun w => Lib.hid (awake_any w)
  have cN := fun w => Lib.hid (New_out n w h)
  by_cases h0 : n < 1
  · clear h
    go_enter Try.func3, Try.ntmps3
    go_wp2_with (first | (go_at_call 6; refine (cN _).out.mono ?_; rintro e w1 ⟨rfl, rfl⟩) | (go_at_call 7; refine (cA _).out.mono ?_; rintro e w' ⟨rfl, hb⟩; have HB := Lib.hid hb; clear hb))
    go_ret
    exact ⟨rfl, HB.out⟩
  · have h1 : 4096 < n := by omega
    have h2 : 1 ≤ n := by omega
    clear h
    go_enter Try.func3, Try.ntmps3
    go_wp2_with (first | (go_at_call 6; refine (cN _).out.mono ?_; rintro e w1 ⟨rfl, rfl⟩) | (go_at_call 7; refine (cA _).out.mono ?_; rintro e w' ⟨rfl, hb⟩; have HB := Lib.hid hb; clear hb))
    go_ret
    exact ⟨rfl, HB.out⟩
end Cn
end Go.Proofs.Ytokgnnmnnjfjbaa
