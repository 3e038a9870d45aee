/-
  A list of pairs as an argument, opened.
-/
import Derived.Test.YtlcdjbleeanpbaaStructs
import Derived.Test.YtlcdjbleeanpbaaArgs
import Derived.Test.YtlcdjbleeanpbaaRowC
import Derived.Test.YtlcdjbleeanpbaaPairK
namespace Go.Proofs.Ytlcdjbleeanpbaa
open Go.RowKit Go.WideShapes Go.ChangeShapes
namespace Lf
open Mem Bu
theorem size_toList (s : ByteArray) : s.data.toList.length = s.size := by rw [Array.length_toList]; rfl
set_option maxRecDepth 100000 in
theorem open_prs_t {H : Type} {enc : TypeId × Value → H} {W : World} {v : Value} {d : DataW H} {p : List MemPlace} {fuel : Nat} (h : DataW.trod enc Try.prog W 0 (fun _ => true) true fuel 29 [v] = some (d, p)) :
    ∃ (A : Option Addr) (L : List Pr) (c : Nat), v = .slice A L.length c ∧ PC W A c L ∧ L.length ≤ c ∧ c ≤ maxLen ∧ ∀ m, m ∈ L → m.1.size ∈ d.weights Try.prog 29 ∧ m.2.size ∈ d.weights Try.prog 29 := by
  obtain ⟨A, len, c, rfl, hl, hm, hc⟩ := Args.open_structs_t Try.underlying29 Try.underlying42 (by kernel_rfl) (by kernel_rfl) (by decide) h
  by_cases h0 : 0 < len
  · obtain ⟨b, o, rfl, hcell⟩ := hc h0
    have each : ∀ i, i < len → ∃ m : Pr, W.cell? ⟨b, o + (i * 2 + 0), none⟩ = some (.string m.1) ∧ W.cell? ⟨b, o + (i * 2 + 1), none⟩ = some (.string m.2) ∧ m.1.size ∈ d.weights Try.prog 29 ∧ m.2.size ∈ d.weights Try.prog 29 := by
      intro i hi
      obtain ⟨u0, y0, n0, h0, k0, z0⟩ := hcell i hi 0 _ rfl
      obtain ⟨u1, y1, n1, h1, k1, z1⟩ := hcell i hi 1 _ rfl
      obtain ⟨s0, e0, rfl, _⟩ := DataW.trod_string Try.underlying9 k0
      obtain ⟨s1, e1, rfl, _⟩ := DataW.trod_string Try.underlying9 k1
      obtain rfl : u0 = _ := by simpa using e0
      obtain rfl : u1 = _ := by simpa using e1
      exact ⟨(s0, s1), h0, h1, z0 _ (by simp [DataW.weights]), z1 _ (by simp [DataW.weights])⟩
    have each' : ∀ i, ∃ m : Pr, i < len → W.cell? ⟨b, o + (i * 2 + 0), none⟩ = some (.string m.1) ∧ W.cell? ⟨b, o + (i * 2 + 1), none⟩ = some (.string m.2) ∧ m.1.size ∈ d.weights Try.prog 29 ∧ m.2.size ∈ d.weights Try.prog 29 := fun i => by
      by_cases hi : i < len
      · obtain ⟨m, hm⟩ := each i hi
        exact ⟨m, fun _ => hm⟩
      · exact ⟨(⟨#[]⟩, ⟨#[]⟩), fun h => absurd h hi⟩
    let F := fun i => Classical.choose (each' i)
    have hF : ∀ i, i < len → W.cell? ⟨b, o + (i * 2 + 0), none⟩ = some (.string (F i).1) ∧ W.cell? ⟨b, o + (i * 2 + 1), none⟩ = some (.string (F i).2) ∧ (F i).1.size ∈ d.weights Try.prog 29 ∧ (F i).2.size ∈ d.weights Try.prog 29 := fun i => Classical.choose_spec (each' i)
    have hb : b < W.heap.size := by
      have := (hF 0 h0).1
      rcases Nat.lt_or_ge b W.heap.size with h' | h'
      · exact h'
      · simp [World.cell?, Array.getElem?_eq_none h'] at this
    refine ⟨some ⟨b, o, none⟩, (List.range len).map F, c, by simp, ⟨fun _ => ⟨b, o, rfl, hb, fun i x hx j u hu => ?_⟩, by simpa using hl⟩, by simpa using hl, hm, fun m hmm => ?_⟩
    rotate_left
    · obtain ⟨i, hi, rfl⟩ := List.mem_map.1 hmm
      exact (hF i (by simpa using hi)).2.2
    obtain ⟨hi, hx⟩ := List.getElem?_eq_some_iff.1 hx
    have hi' : i < len := by simpa using hi
    obtain rfl : F i = x := by simpa using hx
    obtain ⟨e0, e1, -⟩ := hF i hi'
    match j, hu with
    | 0, hu =>
      obtain rfl : Value.string (F i).1 = u := by simpa [PrK] using hu
      exact e0
    | 1, hu =>
      obtain rfl : Value.string (F i).2 = u := by simpa [PrK] using hu
      exact e1
    | j + 2, hu => simp [PrK] at hu
  · obtain rfl : len = 0 := by omega
    exact ⟨A, [], c, rfl, ⟨fun h => absurd h (by simp), Nat.zero_le _⟩, Nat.zero_le _, hm, fun m hmm => by cases hmm⟩
set_option maxRecDepth 100000 in
theorem open_prs {H : Type} {enc : TypeId × Value → H} {W : World} {v : Value} {d : DataW H} {p : List MemPlace} {r : Reach} {b0 : Nat} (hv : Value.okWide Try.prog W r b0 29 v) (h : DataW.Trod enc Try.prog W 0 (fun _ => true) true 29 v d p) :
    ∃ (A : Option Addr) (L : List Pr) (c : Nat), v = .slice A L.length c ∧ PC W A c L ∧ L.length ≤ c ∧ c ≤ maxLen := by
  obtain ⟨a0, len, cap, rfl⟩ := okWide_slice Try.underlying29 hv
  obtain ⟨fuel, hf⟩ := h
  obtain ⟨A, L, c, e1, e2, e3, e4, _⟩ := open_prs_t hf
  exact ⟨A, L, c, e1, e2, e3, e4⟩
end Lf
end Go.Proofs.Ytlcdjbleeanpbaa
