/-
  The calls of ChainPlays, opened; ChainPlays at every input.
-/
import Derived.Test.YtokgnnmnnjfjbaaStructs
import Derived.Test.YtokgnnmnnjfjbaaArgs
import Derived.Test.YtokgnnmnnjfjbaaChainPlays2
namespace Go.Proofs.Ytokgnnmnnjfjbaa
open Go.RowKit Go.WideShapes Go.ChangeShapes
namespace Cn
open Mem

theorem open_acts {H : Type} {enc : TypeId × Value → H} {W : World} {v : Value} {d : DataW H} {p : List MemPlace} {r : Reach} {b0 : Nat} (hv : Value.okWide Try.prog W r b0 22 v) (h : DataW.Trod enc Try.prog W 0 (fun _ => true) true 22 v d p) :
    ∃ (A : Option Addr) (ac : List (Int × Int)) (c : Nat), v = .slice A ac.length c ∧ ActL W A ac ∧ ac.length ≤ c ∧ c ≤ maxLen := by
  obtain ⟨A, len, c, rfl, hl, hm, hc⟩ := Args.open_structs Try.underlying22 Try.underlying30 (by kernel_rfl) (by kernel_rfl) (by decide) hv h
  by_cases h0 : 0 < len
  · obtain ⟨b, o, rfl, hcell⟩ := hc h0
    have each : ∀ i, i < len → ∀ j, j < 2 → ∃ n : Int, W.cell? ⟨b, o + (i * 2 + j), none⟩ = some (.int .i64 n) := by
      intro i hi j hj
      match j, hj with
      | 0, _ =>
        obtain ⟨u, y, n, h1, h2⟩ := hcell i hi 0 _ rfl
        obtain ⟨n', hn, _, _⟩ := DataW.trod_int Try.underlying3 h2
        obtain rfl : u = _ := by simpa using hn
        exact ⟨n', h1⟩
      | 1, _ =>
        obtain ⟨u, y, n, h1, h2⟩ := hcell i hi 1 _ rfl
        obtain ⟨n', hn, _, _⟩ := DataW.trod_int Try.underlying3 h2
        obtain rfl : u = _ := by simpa using hn
        exact ⟨n', h1⟩
    have each' : ∀ i j, ∃ n : Int, i < len → j < 2 → W.cell? ⟨b, o + (i * 2 + j), none⟩ = some (.int .i64 n) := fun i j => by
      by_cases hh : i < len ∧ j < 2
      · obtain ⟨n, hn⟩ := each i hh.1 j hh.2
        exact ⟨n, fun _ _ => hn⟩
      · exact ⟨0, fun h1 h2 => absurd ⟨h1, h2⟩ hh⟩
    let F := fun i j => Classical.choose (each' i j)
    have hF : ∀ i j, i < len → j < 2 → W.cell? ⟨b, o + (i * 2 + j), none⟩ = some (.int .i64 (F i j)) := fun i j => Classical.choose_spec (each' i j)
    refine ⟨some ⟨b, o, none⟩, (List.range len).map fun i => (F i 0, F i 1), c, by simp, fun _ => ⟨b, o, rfl, fun i hi => ?_⟩, by simpa using hl, hm⟩
    have hi' : i < len := by simpa using hi
    have e0 := hF i 0 hi' (by decide)
    have e1 := hF i 1 hi' (by decide)
    rw [show o + (i * 2 + 0) = o + i * 2 by omega] at e0
    rw [show o + (i * 2 + 1) = o + i * 2 + 1 by omega] at e1
    simp only [List.getElem_map, List.getElem_range]
    exact ⟨e0, e1⟩
  · obtain rfl : len = 0 := by omega
    exact ⟨A, [], c, rfl, fun h => absurd h (by simp), Nat.zero_le _, hm⟩

theorem ChainPlays_walk (n : Int) (q : Option Addr) (d : Nat) (ac : List (Int × Int)) (ask : Int) (w : World) (ha : ActL w q ac) (hda : ac.length ≤ maxLen) (_ : (Lit.int .i64 n).wf = true) (_ : (Lit.int .i64 ask).wf = true) :
    Calls Try.prog 3 #[.int .i64 n, .slice q ac.length d, .int .i64 ask] w fun e w' => e = .returned (.bool true) ∧ Below w.heap.size w w' := by
  by_cases h : 1 ≤ n ∧ n ≤ 4096
  · obtain ⟨m, rfl⟩ : ∃ m : Nat, n = m := ⟨n.toNat, by omega⟩
    exact ChainPlays_in m q d ac ask w (by omega) (by omega) ha hda
  · exact ChainPlays_out n _ ask w h
end Cn
end Go.Proofs.Ytokgnnmnnjfjbaa
