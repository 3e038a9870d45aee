/-
  The calls of ChainOnce, opened.
-/
import Derived.Test.YtokgnnmnnjfjbaaStructs
import Derived.Test.YtokgnnmnnjfjbaaArgs
import Derived.Test.YtokgnnmnnjfjbaaOnce
namespace Go.Proofs.Ytokgnnmnnjfjbaa
open Go.RowKit Go.WideShapes Go.ChangeShapes
namespace Cn
open Mem

theorem open_actf {H : Type} {enc : TypeId × Value → H} {W : World} {v : Value} {d : DataW H} {p : List MemPlace} {r : Reach} {b0 : Nat} (hv : Value.okWide Try.prog W r b0 22 v) (h : DataW.Trod enc Try.prog W 0 (fun _ => true) true 22 v d p) :
    ∃ (A : Option Addr) (ac : List (Int × Int)) (c : Nat), v = .slice A ac.length c ∧ ActF W A ac ∧ ac.length ≤ c ∧ c ≤ maxLen := by
  obtain ⟨A, len, c, rfl, hl, hm, hc⟩ := Args.open_structs Try.underlying22 Try.underlying30 (by kernel_rfl) (by kernel_rfl) (by decide) hv h
  by_cases h0 : 0 < len
  · obtain ⟨b, o, rfl, hcell⟩ := hc h0
    have each : ∀ i, i < len → ∀ j, j < 2 → ∃ n : Int, W.cell? ⟨b, o + (i * 2 + j), none⟩ = some (.int .i64 n) ∧ IMap.Fits n := by
      intro i hi j hj
      match j, hj with
      | 0, _ =>
        obtain ⟨u, y, n, h1, h2⟩ := hcell i hi 0 _ rfl
        obtain ⟨n', hn, _, hwf⟩ := DataW.trod_int Try.underlying3 h2
        obtain rfl : u = _ := by simpa using hn
        exact ⟨n', h1, Args.i64_bounds hwf⟩
      | 1, _ =>
        obtain ⟨u, y, n, h1, h2⟩ := hcell i hi 1 _ rfl
        obtain ⟨n', hn, _, hwf⟩ := DataW.trod_int Try.underlying3 h2
        obtain rfl : u = _ := by simpa using hn
        exact ⟨n', h1, Args.i64_bounds hwf⟩
    have each' : ∀ i j, ∃ n : Int, i < len → j < 2 → W.cell? ⟨b, o + (i * 2 + j), none⟩ = some (.int .i64 n) ∧ IMap.Fits n := fun i j => by
      by_cases hh : i < len ∧ j < 2
      · obtain ⟨n, hn⟩ := each i hh.1 j hh.2
        exact ⟨n, fun _ _ => hn⟩
      · exact ⟨0, fun h1 h2 => absurd ⟨h1, h2⟩ hh⟩
    let F := fun i j => Classical.choose (each' i j)
    have hF : ∀ i j, i < len → j < 2 → W.cell? ⟨b, o + (i * 2 + j), none⟩ = some (.int .i64 (F i j)) ∧ IMap.Fits (F i j) := fun i j => Classical.choose_spec (each' i j)
    refine ⟨some ⟨b, o, none⟩, (List.range len).map fun i => (F i 0, F i 1), c, by simp, ⟨fun _ => ⟨b, o, rfl, fun i hi => ?_⟩, fun x hx => ?_⟩, by simpa using hl, hm⟩
    · have hi' : i < len := by simpa using hi
      have e0 := (hF i 0 hi' (by decide)).1
      have e1 := (hF i 1 hi' (by decide)).1
      rw [show o + (i * 2 + 0) = o + i * 2 by omega] at e0
      rw [show o + (i * 2 + 1) = o + i * 2 + 1 by omega] at e1
      simp only [List.getElem_map, List.getElem_range]
      exact ⟨e0, e1⟩
    · obtain ⟨i, hi, rfl⟩ := List.mem_map.1 hx
      exact (hF i 1 (List.mem_range.1 hi) (by decide)).2
  · obtain rfl : len = 0 := by omega
    exact ⟨A, [], c, rfl, ⟨fun h => absurd h (by simp), fun x hx => by cases hx⟩, Nat.zero_le _, hm⟩

end Cn
end Go.Proofs.Ytokgnnmnnjfjbaa
