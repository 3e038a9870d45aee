/-
  Slices of messages cut; what Find, Put, Merge, Take and Split make, by the places.
-/
import Derived.Test.YtmgmkfophdjidaaBufCode1
import Derived.Test.YtmgmkfophdjidaaBufCode2
import Derived.Test.YtmgmkfophdjidaaBytes
namespace Go.Proofs.Ytmgmkfophdjidaa
open Go.RowKit
namespace Bu
open Mem Lx
/-- a slice that reads as L, and has room for it -/
def MC (w : World) (A : Option Addr) (c : Nat) (L : List Mg) : Prop := ML w A L ∧ L.length ≤ c
theorem MC.kept {w w' : World} {A : Option Addr} {c : Nat} {L : List Mg} (h : MC w A c L) (hb : Below w.heap.size w w') : MC w' A c L := ⟨h.1.kept hb, h.2⟩
theorem VK.mc {w : World} {A : Option Addr} {B c : Nat} {L : List Mg} (h : M3 w B A c L) : MC w A c L := by
  refine ⟨h.rd, ?_⟩
  rcases h.2 with ⟨_, h1⟩ | ⟨g, cap, cur, h1, _, _, hn, _⟩
  · omega
  · obtain ⟨_, rfl⟩ : A = some ⟨g, 0, none⟩ ∧ c = cap := by simpa using h1
    exact hn
def cutM (A : Option Addr) (c k : Nat) : Option Addr := if c = k then A else A.map (·.add (k * 3))
theorem MC.cut {w : World} {A : Option Addr} {c : Nat} {L : List Mg} (h : MC w A c L) (k : Nat) : MC w (cutM A c k) (c - k) (L.drop k) := by
  refine ⟨?_, by rw [List.length_drop]; have := h.2; omega⟩
  rcases Nat.lt_or_ge k L.length with hk | hk
  · obtain ⟨b, o, e, hd⟩ := h.1.drop hk
    subst e
    have hc := h.2
    unfold cutM
    rw [if_neg (by omega)]
    have : (⟨b, o, none⟩ : Addr).add (k * 3) = ⟨b, o + k * 3, none⟩ := by by_cases h0 : k * 3 = 0 <;> simp [Addr.add, h0]
    rw [Option.map_some, this]
    exact hd
  · rw [List.drop_eq_nil_of_le hk]
    exact RdK.nil _ _
theorem MC.upTo {w : World} {A : Option Addr} {c : Nat} {L : List Mg} (h : MC w A c L) (k : Nat) : MC w A c (L.take k) :=
  ⟨h.1.take k, by rw [List.length_take]; have := h.2; omega⟩
theorem run_cutM (A : Option Addr) (n c k : Nat) (hk : k ≤ n) (w : World) :
    (Instr.slice 22 (.slice A n c) (some (.int .i64 (k : Int))) none none).run Try.prog w = .ok (.slice (cutM A c k) (n - k) (c - k)) w := by
  obtain ⟨i, hi, -, hs, -⟩ := info_parts mginfo
  have ht : Try.prog.underlying 22 = some (.slice 28) := Try.underlying22
  have he : Try.prog.elem 22 = 28 := by simp [Program.elem, ht]
  rw [run_slice_l w 22 A n c (by rw [he]; exact ht) .i64 (k : Int) (by omega) (by omega), he]
  simp [sizeOf, typeInfo, hi, hs, sliced, cutM, Result.andThen]
theorem run_upToM (A : Option Addr) (n c k : Nat) (hk : k ≤ c) (w : World) :
    (Instr.slice 22 (.slice A n c) none (some (.int .i64 (k : Int))) none).run Try.prog w = .ok (.slice A k c) w := by
  obtain ⟨i, hi, -, hs, -⟩ := info_parts mginfo
  exact run_upTo Try.underlying22 hi A n c k hk w
theorem run_midM (A : Option Addr) (n c p q : Nat) (hp : p ≤ q) (hq : q ≤ c) (w : World) :
    (Instr.slice 22 (.slice A n c) (some (.int .i64 (p : Int))) (some (.int .i64 (q : Int))) none).run Try.prog w = .ok (.slice (cutM A c p) (q - p) (c - p)) w := by
  obtain ⟨i, hi, -, hs, -⟩ := info_parts mginfo
  have ht : Try.prog.underlying 22 = some (.slice 28) := Try.underlying22
  have he : Try.prog.elem 22 = 28 := by simp [Program.elem, ht]
  rw [run_slice_lh w 22 A n c (by rw [he]; exact ht) .i64 .i64 (p : Int) (q : Int) (by omega) (by omega) (by omega), he]
  simp [sizeOf, typeInfo, hi, hs, sliced, cutM, Result.andThen]
/-! ### lists -/
theorem mem_at {L : List Mg} {x : Mg} (h : x ∈ L) : ∃ i : Nat, L[i]? = some x := List.getElem?_of_mem h
theorem mem_take_at {L : List Mg} {p : Nat} {x : Mg} (h : x ∈ L.take p) : ∃ i, i < p ∧ L[i]? = some x := by
  obtain ⟨i, hi⟩ := List.getElem?_of_mem h
  rw [List.getElem?_take] at hi
  split at hi
  · exact ⟨i, by assumption, hi⟩
  · cases hi
theorem mem_drop_at {L : List Mg} {p : Nat} {x : Mg} (h : x ∈ L.drop p) : ∃ i, p ≤ i ∧ L[i]? = some x := by
  obtain ⟨i, hi⟩ := List.getElem?_of_mem h
  rw [List.getElem?_drop] at hi
  exact ⟨p + i, by omega, hi⟩
theorem take_drop_drop (L : List Mg) {p q : Nat} (h : p ≤ q) : L.take p ++ (L.take q).drop p ++ L.drop q = L := by
  have e : L.take p = (L.take q).take p := by rw [List.take_take, Nat.min_eq_left h]
  rw [e, List.take_append_drop, List.take_append_drop]
theorem Cut.taken {P : Mg → Bool} {L : List Mg} {p q : Nat} (h : Cut P L p q) (most : Int) : takeD P most L = (((L.take q).drop p).take most.toNat, L.take p ++ ((L.take q).drop p).drop most.toNat ++ L.drop q) := by
  have h2 : ∀ x, x ∈ L.take p → P x = false := fun x hx => by
    obtain ⟨i, hi, e⟩ := mem_take_at hx
    exact h.ahead i x hi e
  have h3 : ∀ x, x ∈ (L.take q).drop p → P x = true := fun x hx => by
    obtain ⟨i, hi, e⟩ := mem_drop_at hx
    rw [List.getElem?_take] at e
    split at e
    · exact h.inn i x hi (by assumption) e
    · cases e
  have h4 : ∀ x, x ∈ L.drop q → P x = false := fun x hx => by
    obtain ⟨i, hi, e⟩ := mem_drop_at hx
    exact h.behind i x hi e
  have := takeD_parts (most := most) h2 h3 h4
  rw [take_drop_drop L h.pq] at this
  exact this
theorem take_min {b : List Mg} {j m : Nat} (hj : j = min b.length m) : b.take m = b.take j ∧ b.drop m = b.drop j := by
  rcases Nat.lt_or_ge m b.length with h | h
  · obtain rfl : j = m := by omega
    exact ⟨rfl, rfl⟩
  · obtain rfl : j = b.length := by omega
    rw [List.take_of_length_le h, List.drop_eq_nil_of_le h]
    simp
/-- what Take takes, and what it leaves, by the places -/
theorem Cut.take {P : Mg → Bool} {L : List Mg} {p q j : Nat} (h : Cut P L p q) (most : Int) (hj : j = min (q - p) most.toNat) : takeD P most L = ((L.take (p + j)).drop p, L.take p ++ L.drop (p + j)) := by
  have hlen : ((L.take q).drop p).length = q - p := by
    rw [List.length_drop, List.length_take, Nat.min_eq_left h.le]
  obtain ⟨e1, e2⟩ := take_min (b := (L.take q).drop p) (j := j) (m := most.toNat) (by rw [hlen]; exact hj)
  rw [h.taken most, e1, e2]
  have hjq : p + j ≤ q := by
    have := h.pq
    omega
  have e3 : (L.take (p + j)).drop p = ((L.take q).drop p).take j := by
    rw [List.drop_take, List.drop_take, List.take_take, Nat.add_sub_cancel_left, Nat.min_eq_left (by omega)]
  have e4 : L.drop (p + j) = ((L.take q).drop p).drop j ++ L.drop q := by
    have : ((L.take q).drop p ++ L.drop q) = L.drop p := by
      rw [← List.drop_append_of_le_length (by rw [List.length_take, Nat.min_eq_left h.le]; exact h.pq), List.take_append_drop]
    rw [← List.drop_append_of_le_length (by rw [hlen]; omega), this, List.drop_drop]
  rw [e3, e4, List.append_assoc]
theorem Cut.part {P : Mg → Bool} {L : List Mg} {p q : Nat} (h : Cut P L p q) : (takeD P (L.length : Int) L).1 = (L.take q).drop p := by
  have h1 := h.pq
  have h2 := h.le
  rw [h.take (j := q - p) _ (by omega)]
  rw [show p + (q - p) = q by omega]
theorem Lb.split {L : List Mg} {key : ByteArray} {p : Nat} (h : Lb L key p) : takeD (fun m => decide (cmpB m.1 key < 0)) (L.length : Int) L = (L.take p, L.drop p) := by
  have hc : Cut (fun m => decide (cmpB m.1 key < 0)) L 0 p := ⟨Nat.zero_le _, h.le, fun i m hi => absurd hi (Nat.not_lt_zero _), fun i m _ hi hm => decide_eq_true (h.lo i m hi hm), fun i m hi hm => decide_eq_false (by have := h.hi i m hi hm; omega)⟩
  have := h.le
  rw [hc.take (j := p) _ (by omega)]
  simp
theorem Lb.found {L : List Mg} {key : ByteArray} {p : Nat} {m : Mg} (h : Lb L key p) (hm : L[p]? = some m) (hk : m.1 = key) : findD L key = some m :=
  findD_at hm hk fun i x hi hx e => by
    have := h.lo i x hi hx
    rw [e, cmpB_self] at this
    omega
/-- those behind the place, but the key's own, are behind the key -/
theorem Lb.above {L : List Mg} {key : ByteArray} {p : Nat} (h : Lb L key p) (hr : Ri L) {i : Nat} {m : Mg} (hi : p ≤ i) (hm : L[i]? = some m) (hn : i = p → m.1 ≠ key) : cmpB key m.1 < 0 := by
  have h1 := h.hi i m hi hm
  have h2 := cmpB_neg m.1 key
  rcases cmpB_tri key m.1 with h3 | h3 | h3
  · exact h3
  · exfalso
    rcases Nat.lt_or_ge p i with hlt | hge
    · have hp : p < L.length := Nat.lt_trans hlt (List.getElem?_eq_some_iff.1 hm).1
      have h4 := hr.at_ (nat_len hp) hm hlt
      rw [← h3] at h4
      have h5 := h.hi p L[p] (Nat.le_refl _) (nat_len hp)
      omega
    · exact hn (by omega) h3.symm
  · omega
theorem Lb.lacks {L : List Mg} {key : ByteArray} {p : Nat} (h : Lb L key p) (hr : Ri L) (hn : ¬ ∃ m, L[p]? = some m ∧ m.1 = key) : findD L key = none :=
  findD_none fun i m _ hm e => by
    rcases Nat.lt_or_ge i p with h1 | h1
    · have := h.lo i m h1 hm
      rw [e, cmpB_self] at this
      omega
    · have := h.above hr h1 hm fun h2 h3 => hn ⟨m, by rw [← h2]; exact hm, h3⟩
      rw [e, cmpB_self] at this
      omega
/-- the buffer with a message -/
theorem Lb.put {L : List Mg} {m : Mg} {p q : Nat} (h : Lb L m.1 p) (hr : Ri L) (hq : q = p ∧ (¬ ∃ x, L[p]? = some x ∧ x.1 = m.1) ∨ q = p + 1 ∧ ∃ x, L[p]? = some x ∧ x.1 = m.1) : putD L m = L.take p ++ [m] ++ L.drop q := by
  have hpq : p ≤ q := by omega
  have h1 : ∀ x, x ∈ L.take p → cmpB x.1 m.1 < 0 := fun x hx => by
    obtain ⟨i, hi, e⟩ := mem_take_at hx
    exact h.lo i x hi e
  have h2 : ∀ x, x ∈ L.drop q → cmpB m.1 x.1 < 0 := fun x hx => by
    obtain ⟨i, hi, e⟩ := mem_drop_at hx
    refine h.above hr (by omega) e fun h3 h4 => ?_
    rcases hq with ⟨_, hn⟩ | ⟨h5, _⟩
    · exact hn ⟨x, by rw [← h3]; exact e, h4⟩
    · omega
  refine Ri.ext (hr.put m) ?_ fun x => ?_
  · refine List.pairwise_append.2 ⟨List.pairwise_append.2 ⟨hr.sublist (List.take_sublist _ _), List.pairwise_singleton _ _, fun a ha b hb => ?_⟩, hr.sublist (List.drop_sublist _ _), fun a ha b hb => ?_⟩
    · obtain rfl : b = m := by simpa using hb
      exact h1 a ha
    · rcases List.mem_append.1 ha with ha | ha
      · exact cmpB_trans (h1 a ha) (h2 b hb)
      · obtain rfl : a = m := by simpa using ha
        exact h2 b hb
  · rw [mem_putD, List.mem_append, List.mem_append, List.mem_singleton]
    constructor
    · rintro (rfl | ⟨hx, hne⟩)
      · exact .inl (.inr rfl)
      · obtain ⟨i, hi⟩ := mem_at hx
        rcases Nat.lt_or_ge i p with h3 | h3
        · left; left
          refine List.mem_of_getElem? (i := i) ?_
          rw [List.getElem?_take, if_pos h3]
          exact hi
        · rcases Nat.lt_or_ge i q with h4 | h4
          · exfalso
            rcases hq with ⟨h5, _⟩ | ⟨h5, y, hy, hk⟩
            · omega
            · obtain rfl : i = p := by omega
              rw [hi] at hy
              cases hy
              exact hne hk
          · right
            refine List.mem_of_getElem? (i := i - q) ?_
            rw [List.getElem?_drop, show q + (i - q) = i by omega]
            exact hi
    · rintro ((hx | rfl) | hx)
      · exact .inr ⟨List.mem_of_mem_take hx, cmpB_ne (h1 x hx)⟩
      · exact .inl rfl
      · exact .inr ⟨List.mem_of_mem_drop hx, fun e => cmpB_ne (h2 x hx) e.symm⟩
theorem mergeD_none {L : List Mg} (h : Ri L) : mergeD L [] = L := by
  refine Ri.ext (Ri.merge List.Pairwise.nil).1 h fun x => ?_
  rw [mem_mergeD h]
  simp
theorem mergeD_lt {x y : Mg} {l m : List Mg} (h : Ri (x :: l)) (k : Ri (y :: m)) (hc : cmpB x.1 y.1 < 0) : mergeD (x :: l) (y :: m) = x :: mergeD l (y :: m) := by
  obtain ⟨h1, h2⟩ := List.pairwise_cons.1 h
  obtain ⟨k1, k2⟩ := List.pairwise_cons.1 k
  have hy : ∀ z, z ∈ y :: m → cmpB x.1 z.1 < 0 := fun z hz => by
    rcases List.mem_cons.1 hz with rfl | hz
    · exact hc
    · exact cmpB_trans hc (k1 z hz)
  refine Ri.ext (Ri.merge k).1 (List.pairwise_cons.2 ⟨fun z hz => ?_, (Ri.merge k).1⟩) fun z => ?_
  · rcases (mem_mergeD h2).1 hz with h3 | ⟨h3, _⟩
    · exact h1 z h3
    · exact hy z h3
  · rw [mem_mergeD h, List.mem_cons (a := z) (b := x), List.mem_cons (a := z) (b := x), mem_mergeD h2]
    constructor
    · rintro ((h3 | h3) | ⟨h3, h4⟩)
      · exact .inl h3
      · exact .inr (.inl h3)
      · exact .inr (.inr ⟨h3, fun y hy => h4 y (by simp [hy])⟩)
    · rintro (h3 | h3 | ⟨h3, h4⟩)
      · exact .inl (.inl h3)
      · exact .inl (.inr h3)
      · exact .inr ⟨h3, fun u hu => by
          rcases List.mem_cons.1 hu with rfl | hu
          · exact cmpB_ne (hy z h3)
          · exact h4 u hu⟩
theorem mergeD_gt {x y : Mg} {l m : List Mg} (h : Ri (x :: l)) (k : Ri (y :: m)) (hc : cmpB y.1 x.1 < 0) : mergeD (x :: l) (y :: m) = y :: mergeD (x :: l) m := by
  obtain ⟨h1, h2⟩ := List.pairwise_cons.1 h
  obtain ⟨k1, k2⟩ := List.pairwise_cons.1 k
  have hx : ∀ z, z ∈ x :: l → cmpB y.1 z.1 < 0 := fun z hz => by
    rcases List.mem_cons.1 hz with rfl | hz
    · exact hc
    · exact cmpB_trans hc (h1 z hz)
  refine Ri.ext (Ri.merge k).1 (List.pairwise_cons.2 ⟨fun z hz => ?_, (Ri.merge k2).1⟩) fun z => ?_
  · rcases (mem_mergeD h).1 hz with h3 | ⟨h3, _⟩
    · exact hx z h3
    · exact k1 z h3
  · rw [mem_mergeD h, List.mem_cons (a := z) (b := y), List.mem_cons (a := z) (b := y), mem_mergeD h]
    constructor
    · rintro (h3 | ⟨h3 | h3, h4⟩)
      · exact .inr (.inl h3)
      · exact .inl h3
      · exact .inr (.inr ⟨h3, h4⟩)
    · rintro (rfl | h3 | ⟨h3, h4⟩)
      · exact .inr ⟨.inl rfl, fun u hu => (cmpB_ne (hx u hu)).symm⟩
      · exact .inl h3
      · exact .inr ⟨.inr h3, h4⟩
theorem mergeD_eq {x y : Mg} {l m : List Mg} (h : Ri (x :: l)) (k : Ri (y :: m)) (hc : x.1 = y.1) : mergeD (x :: l) (y :: m) = mergeD (x :: l) m := by
  obtain ⟨k1, k2⟩ := List.pairwise_cons.1 k
  refine Ri.ext (Ri.merge k).1 (Ri.merge k2).1 fun z => ?_
  rw [mem_mergeD h, mem_mergeD h, List.mem_cons (a := z) (b := y)]
  constructor
  · rintro (h3 | ⟨rfl | h3, h4⟩)
    · exact .inl h3
    · exact absurd hc (h4 x (by simp))
    · exact .inr ⟨h3, h4⟩
  · rintro (h3 | ⟨h3, h4⟩)
    · exact .inl h3
    · exact .inr ⟨.inr h3, h4⟩
end Bu
end Go.Proofs.Ytmgmkfophdjidaa
