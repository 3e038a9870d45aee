/-
  A slice of slices of bytes that reads as a list of texts; such an argument, opened. No program.
-/
import Derived.ProofKit
import Derived.Deep.Slices
import Derived.Test.YteefkhgmcknbaaaArgs
namespace Go.Proofs.Yteefkhgmcknbaaa.Mem
open Go.RowKit

/-- the slice at p reads as these texts -/
def LL (w : World) (p : Option Addr) (ls : List (List UInt8)) : Prop :=
  0 < ls.length → ∃ b o, p = some ⟨b, o, none⟩ ∧ ∀ i (h : i < ls.length), ∃ A c, w.cell? ⟨b, o + i, none⟩ = some (.slice A ls[i].length c) ∧ BL w A ls[i] ∧ ls[i].length ≤ c
theorem LL.nil (w : World) (p : Option Addr) : LL w p [] := fun h => absurd h (by simp)
theorem LL.at_ {w : World} {p : Option Addr} {ls : List (List UInt8)} (h : LL w p ls) {i : Nat} (hi : i < ls.length) :
    ∃ b o A c, p = some ⟨b, o, none⟩ ∧ w.cell? ⟨b, o + i, none⟩ = some (.slice A ls[i].length c) ∧ BL w A ls[i] ∧ ls[i].length ≤ c := by
  obtain ⟨b, o, e, hc⟩ := h (by omega)
  obtain ⟨A, c, h1, h2⟩ := hc i hi
  exact ⟨b, o, A, c, e, h1, h2⟩
theorem cell_lt {w : World} {a : Addr} {v : Value} (h : w.cell? a = some v) : a.block < w.heap.size := by
  rcases Nat.lt_or_ge a.block w.heap.size with h' | h'
  · exact h'
  · simp [World.cell?, Array.getElem?_eq_none h'] at h
theorem LL.below {w w' : World} {p : Option Addr} {ls : List (List UInt8)} (h : LL w p ls) (hb : Below w.heap.size w w') : LL w' p ls := fun hl => by
  obtain ⟨b, o, e, hc⟩ := h hl
  refine ⟨b, o, e, fun i hi => ?_⟩
  obtain ⟨A, c, h1, h2, h3⟩ := hc i hi
  exact ⟨A, c, by rw [hb.cell (p := ⟨b, o + i, none⟩) (cell_lt h1)]; exact h1, h2.below hb, h3⟩
/-- a block of such slices, known whole -/
theorem LL.of_block {w : World} {g : Nat} {vs : Array Value} {U : TypeId} {ls : List (List UInt8)} {fl : Nat × Nat} (h : w.heap[g]? = some (.cells vs U fl)) (_ : vs.size = ls.length)
    (hv : ∀ i (h : i < ls.length), ∃ A c, vs[i]? = some (.slice A ls[i].length c) ∧ BL w A ls[i] ∧ ls[i].length ≤ c) : LL w (some ⟨g, 0, none⟩) ls := fun _ => by
  refine ⟨g, 0, rfl, fun i hi => ?_⟩
  obtain ⟨A, c, h1, h2⟩ := hv i hi
  exact ⟨A, c, by simp [World.cell?, h, h1], h2⟩
theorem LL.one {w : World} {g : Nat} {U : TypeId} {l : List UInt8} {A : Option Addr} {c : Nat} {fl : Nat × Nat} (h : w.heap[g]? = some (.cells #[.slice A l.length c] U fl)) (hb : BL w A l) (hl : l.length ≤ c) : LL w (some ⟨g, 0, none⟩) [l] :=
  LL.of_block h rfl fun i hi => by
    obtain rfl : i = 0 := by simpa using hi
    exact ⟨A, c, rfl, hb, hl⟩
theorem LL.two {w : World} {g : Nat} {U : TypeId} {l l' : List UInt8} {A A' : Option Addr} {c c' : Nat} {fl : Nat × Nat} (h : w.heap[g]? = some (.cells #[.slice A l.length c, .slice A' l'.length c'] U fl)) (hb : BL w A l) (hl : l.length ≤ c)
    (hb' : BL w A' l') (hl' : l'.length ≤ c') : LL w (some ⟨g, 0, none⟩) [l, l'] :=
  LL.of_block h rfl fun i hi => by
    match i, hi with
    | 0, _ => exact ⟨A, c, rfl, hb, hl⟩
    | 1, _ => exact ⟨A', c', rfl, hb', hl'⟩
end Go.Proofs.Yteefkhgmcknbaaa.Mem
namespace Go.Proofs.Yteefkhgmcknbaaa.Args
open Go.RowKit Go.WideShapes Go.ChangeShapes Go.Deep Mem
section
variable {H : Type} {enc : TypeId × Value → H} {P : Program} {W : World}

theorem weights_mem_all {e : TypeId} : ∀ {ds : List (DataW H)} {d : DataW H}, d ∈ ds → ∀ n ∈ d.weights P e, n ∈ DataW.weightsAll P e ds
  | d0 :: ds, d, hd, n, hn => by
    simp only [DataW.weightsAll, List.mem_append]
    rcases List.mem_cons.1 hd with rfl | hd
    · exact .inl hn
    · exact .inr (weights_mem_all hd n hn)
  | [], _, hd, _, _ => by cases hd

/-- the cells of a slice of bytes -/
theorem bytes_of_cells {t e : TypeId} {fuel : Nat} {cs : List Value} {x : DataW H × List MemPlace} (ht : P.underlying t = some (.slice e)) (he : P.underlying e = some (.int .u8)) (hc : P.cellsOf e = 1)
    (h : DataW.trod enc P W 0 (fun _ => true) true fuel t cs = some x) : ∃ (A : Option Addr) (l : List UInt8) (c : Nat), cs = [.slice A l.length c] ∧ BL W A l ∧ l.length ≤ c ∧ c ≤ maxLen ∧ (P.bytesOf e = 1 → (∀ n ∈ x.1.weights P t, n ≤ reachBytes) → l.length ≤ reachBytes) := by
  rcases open_ints ht he hc h with ⟨rfl, _⟩ | ⟨a, len, cap, zs, rfl, _, hl, hm, hz, hx, hcell, hwz⟩
  · exact ⟨none, [], 0, rfl, BL.nil _ _, Nat.le_refl _, Nat.zero_le _, fun _ _ => Nat.zero_le _⟩
  · simp only [if_true] at hz
    have htl : ((zs.take len).map fun z => UInt8.ofNat z.toNat).length = len := by simp; omega
    refine ⟨some a, (zs.take len).map fun z => UInt8.ofNat z.toNat, cap, by rw [htl], fun hpos => ?_, by rw [htl]; exact hl, hm, fun hb hw => ?_⟩
    case refine_2 =>
      rw [htl]
      have := hw (((lits .u8 (zs.take len) : List (DataW H)).length + (lits .u8 (zs.drop len) : List (DataW H)).length) * P.bytesOf e) (by rw [hx]; simp [DataW.weights, ht])
      rw [hb] at this
      simp [lits] at this
      omega
    rw [htl] at hpos
    obtain ⟨b, o, sp⟩ := a
    have h0 := hcell 0 (by omega)
    obtain rfl : sp = none := by simpa [Addr.add] using World.cell?_spot h0
    refine ⟨b, o, rfl, fun i hi => ?_⟩
    rw [htl] at hi
    have h1 := hcell i (by omega)
    have e : (⟨b, o, none⟩ : Addr).add i = ⟨b, o + i, none⟩ := by unfold Addr.add; split <;> simp_all
    rw [e] at h1
    rw [h1]
    obtain ⟨n, hn, hlt⟩ := nat_of_u8 (hwz (zs.getD i 0) (by rw [List.getD, List.getElem?_eq_getElem (by omega)]; exact List.getElem_mem _))
    have hzi : zs[i]'(by omega) = (n : Int) := by
      rw [← hn, List.getD, List.getElem?_eq_getElem (by omega)]; rfl
    rw [hn]
    simp only [List.getElem_map, List.getElem_take, hzi, byteV]
    simp; omega

/-- an argument of type [][]byte -/
theorem open_texts {t s e : TypeId} (ht : P.underlying t = some (.slice s)) (hs : P.underlying s = some (.slice e)) (he : P.underlying e = some (.int .u8)) (hcs : P.cellsOf s = 1) (hc : P.cellsOf e = 1) {v : Value} {d : DataW H} {p : List MemPlace} {r : Reach} {b0 : Nat} (hv : Value.okWide P W r b0 t v)
    (h : DataW.Trod enc P W 0 (fun _ => true) true t v d p) : ∃ (A : Option Addr) (ls : List (List UInt8)) (c : Nat), v = .slice A ls.length c ∧ LL W A ls ∧ ls.length ≤ c ∧ c ≤ maxLen ∧ (P.bytesOf e = 1 → (∀ n ∈ d.weights P t, n ≤ reachBytes) → ∀ l ∈ ls, l.length ≤ reachBytes) ∧ (0 < P.bytesOf s → (∀ n ∈ d.weights P t, n ≤ reachBytes) → ls.length ≤ reachBytes) := by
  obtain ⟨a0, len, cap, rfl⟩ := okWide_slice ht hv
  obtain ⟨fuel, hf⟩ := h
  rcases open_slice1 ht hcs hf with ⟨hcs, _⟩ | ⟨a, len', cap', m, n, V, D, Pl, hcs, _, hl, hm, hmm, hx, hi⟩
  · simp [Value.cells] at hcs
    obtain ⟨rfl, rfl, rfl⟩ := hcs
    exact ⟨none, [], 0, rfl, LL.nil _ _, Nat.le_refl _, Nat.zero_le _, fun _ _ l hl => (by cases hl), fun _ _ => Nat.zero_le _⟩
  · simp [Value.cells] at hcs
    obtain ⟨rfl, rfl, rfl⟩ := hcs
    simp only [if_true] at hmm
    have each : ∀ i, ∃ x : Option Addr × List UInt8 × Nat, i < len → V i = .slice x.1 x.2.1.length x.2.2 ∧ BL W x.1 x.2.1 ∧ x.2.1.length ≤ x.2.2 ∧ x.2.2 ≤ maxLen ∧ (P.bytesOf e = 1 → (∀ n ∈ (D i).weights P s, n ≤ reachBytes) → x.2.1.length ≤ reachBytes) := fun i => by
      by_cases hil : i < len
      · obtain ⟨A, l, c, h1, h2⟩ := bytes_of_cells hs he hc (hi i (by omega)).2
        exact ⟨(A, l, c), fun _ => ⟨by simpa using h1, h2⟩⟩
      · exact ⟨(none, [], 0), fun h => absurd h hil⟩
    let F := fun i => Classical.choose (each i)
    have hF : ∀ i, i < len → V i = .slice (F i).1 (F i).2.1.length (F i).2.2 ∧ BL W (F i).1 (F i).2.1 ∧ (F i).2.1.length ≤ (F i).2.2 ∧ (F i).2.2 ≤ maxLen ∧ (P.bytesOf e = 1 → (∀ n ∈ (D i).weights P s, n ≤ reachBytes) → (F i).2.1.length ≤ reachBytes) := fun i => Classical.choose_spec (each i)
    refine ⟨some a, (List.range len).map fun i => (F i).2.1, cap, by simp, fun hpos => ?_, by simpa using hl, hm, fun hb hw l hlm => ?_, fun hb hw => ?_⟩
    case refine_3 =>
      simp only [Prod.mk.injEq] at hx
      rw [hx.1] at hw
      have h1 := hw _ (by simp only [DataW.weights, ht]; exact List.mem_cons_self)
      have h2 : len * 1 ≤ len * P.bytesOf s := Nat.mul_le_mul_left _ hb
      have h3 : len * P.bytesOf s ≤ (((List.range len).map D).length + ((List.range (m - len)).map fun j => D (len + j)).length) * P.bytesOf s := Nat.mul_le_mul_right _ (by simp)
      simp only [List.length_map, List.length_range] at *
      omega
    case refine_2 =>
      obtain ⟨i, hi1, rfl⟩ := List.mem_map.1 hlm
      have hil : i < len := by simpa using hi1
      refine (hF i hil).2.2.2.2 hb fun n hn => hw n ?_
      simp only [Prod.mk.injEq] at hx
      rw [hx.1]
      simp only [DataW.weights, ht, List.mem_cons, List.mem_append]
      exact .inr (.inl (weights_mem_all (List.mem_map.2 ⟨i, hi1, rfl⟩) n hn))
    have hpos' : 0 < len := by simpa using hpos
    obtain ⟨b, o, sp⟩ := a
    have h0 := (hi 0 (by omega)).1
    obtain rfl : sp = none := by simpa [Addr.add] using World.cell?_spot h0
    refine ⟨b, o, rfl, fun i hil => ?_⟩
    have hil' : i < len := by simpa using hil
    have h1 := (hi i (by omega)).1
    have e : (⟨b, o, none⟩ : Addr).add i = ⟨b, o + i, none⟩ := by unfold Addr.add; split <;> simp_all
    rw [e] at h1
    obtain ⟨g1, g2, g3, _⟩ := hF i hil'
    refine ⟨(F i).1, (F i).2.2, ?_, ?_, ?_⟩
    · rw [h1, g1]; simp
    · simpa using g2
    · simpa using g3
end
end Go.Proofs.Yteefkhgmcknbaaa.Args
