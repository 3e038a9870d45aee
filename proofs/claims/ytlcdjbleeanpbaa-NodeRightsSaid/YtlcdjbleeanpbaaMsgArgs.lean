/-
  A list of messages as an argument, opened.
-/
import Derived.Test.YtlcdjbleeanpbaaStructs
import Derived.Test.YtlcdjbleeanpbaaArgs
import Derived.Test.YtlcdjbleeanpbaaRowC
import Derived.Test.YtlcdjbleeanpbaaMsgK
namespace Go.Proofs.Ytlcdjbleeanpbaa
open Go.RowKit Go.WideShapes Go.ChangeShapes
namespace Bu
open Mem
set_option maxRecDepth 100000 in
theorem open_msgs_t {H : Type} {enc : TypeId × Value → H} {W : World} {v : Value} {d : DataW H} {p : List MemPlace} {fuel : Nat} (h : DataW.trod enc Try.prog W 0 (fun _ => true) true fuel 28 [v] = some (d, p)) :
    ∃ (A : Option Addr) (L : List Mg) (c : Nat), v = .slice A L.length c ∧ RC MgK W A c L ∧ L.length ≤ c ∧ c ≤ maxLen := by
  obtain ⟨A, len, c, rfl, hl, hm, hc⟩ := Args.open_structs_t Try.underlying28 Try.underlying40 (by kernel_rfl) (by kernel_rfl) (by decide) h
  by_cases h0 : 0 < len
  · obtain ⟨b, o, rfl, hcell⟩ := hc h0
    have each : ∀ i, i < len → ∃ m : Mg, W.cell? ⟨b, o + (i * 3 + 0), none⟩ = some (.string m.1) ∧ W.cell? ⟨b, o + (i * 3 + 1), none⟩ = some (.bool m.2.1) ∧ W.cell? ⟨b, o + (i * 3 + 2), none⟩ = some (.string m.2.2) := by
      intro i hi
      obtain ⟨u0, y0, n0, h0, k0, -⟩ := hcell i hi 0 _ rfl
      obtain ⟨u1, y1, n1, h1, k1, -⟩ := hcell i hi 1 _ rfl
      obtain ⟨u2, y2, n2, h2, k2, -⟩ := hcell i hi 2 _ rfl
      obtain ⟨s0, e0, _, _⟩ := DataW.trod_string Try.underlying9 k0
      obtain ⟨s1, e1, _⟩ := DataW.trod_bool Try.underlying4 k1
      obtain ⟨s2, e2, _, _⟩ := DataW.trod_string Try.underlying9 k2
      obtain rfl : u0 = _ := by simpa using e0
      obtain rfl : u1 = _ := by simpa using e1
      obtain rfl : u2 = _ := by simpa using e2
      exact ⟨(s0, s1, s2), h0, h1, h2⟩
    have each' : ∀ i, ∃ m : Mg, i < len → W.cell? ⟨b, o + (i * 3 + 0), none⟩ = some (.string m.1) ∧ W.cell? ⟨b, o + (i * 3 + 1), none⟩ = some (.bool m.2.1) ∧ W.cell? ⟨b, o + (i * 3 + 2), none⟩ = some (.string m.2.2) := fun i => by
      by_cases hi : i < len
      · obtain ⟨m, hm⟩ := each i hi
        exact ⟨m, fun _ => hm⟩
      · exact ⟨zeroM, fun h => absurd h hi⟩
    let F := fun i => Classical.choose (each' i)
    have hF : ∀ i, i < len → W.cell? ⟨b, o + (i * 3 + 0), none⟩ = some (.string (F i).1) ∧ W.cell? ⟨b, o + (i * 3 + 1), none⟩ = some (.bool (F i).2.1) ∧ W.cell? ⟨b, o + (i * 3 + 2), none⟩ = some (.string (F i).2.2) := fun i => Classical.choose_spec (each' i)
    have hb : b < W.heap.size := by
      have := (hF 0 h0).1
      rcases Nat.lt_or_ge b W.heap.size with h' | h'
      · exact h'
      · simp [World.cell?, Array.getElem?_eq_none h'] at this
    refine ⟨some ⟨b, o, none⟩, (List.range len).map F, c, by simp, ⟨fun _ => ⟨b, o, rfl, hb, fun i x hx j u hu => ?_⟩, by simpa using hl⟩, by simpa using hl, hm⟩
    obtain ⟨hi, hx⟩ := List.getElem?_eq_some_iff.1 hx
    have hi' : i < len := by simpa using hi
    obtain rfl : F i = x := by simpa using hx
    obtain ⟨e0, e1, e2⟩ := hF i hi'
    match j, hu with
    | 0, hu =>
      obtain rfl : Value.string (F i).1 = u := by simpa [MgK] using hu
      exact e0
    | 1, hu =>
      obtain rfl : Value.bool (F i).2.1 = u := by simpa [MgK] using hu
      exact e1
    | 2, hu =>
      obtain rfl : Value.string (F i).2.2 = u := by simpa [MgK] using hu
      exact e2
    | j + 3, hu => simp [MgK] at hu
  · obtain rfl : len = 0 := by omega
    exact ⟨A, [], c, rfl, ⟨fun h => absurd h (by simp), Nat.zero_le _⟩, Nat.zero_le _, hm⟩
set_option maxRecDepth 100000 in
theorem open_msgs {H : Type} {enc : TypeId × Value → H} {W : World} {v : Value} {d : DataW H} {p : List MemPlace} {r : Reach} {b0 : Nat} (hv : Value.okWide Try.prog W r b0 28 v) (h : DataW.Trod enc Try.prog W 0 (fun _ => true) true 28 v d p) :
    ∃ (A : Option Addr) (L : List Mg) (c : Nat), v = .slice A L.length c ∧ RC MgK W A c L ∧ L.length ≤ c ∧ c ≤ maxLen := by
  obtain ⟨a0, len, cap, rfl⟩ := okWide_slice Try.underlying28 hv
  obtain ⟨fuel, hf⟩ := h
  exact open_msgs_t hf
end Bu
end Go.Proofs.Ytlcdjbleeanpbaa
