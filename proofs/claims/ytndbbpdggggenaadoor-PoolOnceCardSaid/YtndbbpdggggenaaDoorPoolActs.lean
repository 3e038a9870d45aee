/-
  The calls of pool's laws, opened.
-/
import Derived.Test.YtndbbpdggggenaaDoorStructs
import Derived.Test.YtndbbpdggggenaaDoorArgs
import Derived.Test.YtndbbpdggggenaaDoorPoolPair
namespace Go.Proofs.YtndbbpdggggenaaDoor
open Go.RowKit Go.WideShapes Go.ChangeShapes
namespace Po
open Mem

theorem open_acts {H : Type} {enc : TypeId × Value → H} {W : World} {v : Value} {d : DataW H} {p : List MemPlace} {r : Reach} {b0 : Nat} (hv : Value.okWide Tryd.prog W r b0 22 v) (h : DataW.Trod enc Tryd.prog W 0 (fun _ => true) true 22 v d p) :
    ∃ (A : Option Addr) (ac : List (Int × Int × Nat)) (c : Nat), v = .slice A ac.length c ∧ ActL W A ac ∧ ac.length ≤ c ∧ c ≤ maxLen := by
  obtain ⟨A, len, c, rfl, hl, hm, hc⟩ := Args.open_structs Tryd.underlying22 Tryd.underlying33 (by kernel_rfl) (by kernel_rfl) (by decide) hv h
  by_cases h0 : 0 < len
  · obtain ⟨b, o, rfl, hcell⟩ := hc h0
    have each : ∀ i, ∃ x : Int × Int × Nat, i < len → W.cell? ⟨b, o + i * 3, none⟩ = some (.int .i64 x.1) ∧ W.cell? ⟨b, o + i * 3 + 1, none⟩ = some (.int .i64 x.2.1) ∧ W.cell? ⟨b, o + i * 3 + 2, none⟩ = some (.int .u32 (x.2.2 : Int)) ∧ x.2.2 < 4294967296 := fun i => by
      by_cases hi : i < len
      · obtain ⟨u0, y0, n0, g0, t0⟩ := hcell i hi 0 _ rfl
        obtain ⟨x0, e0, _, _⟩ := DataW.trod_int Tryd.underlying3 t0
        obtain rfl : u0 = _ := by simpa using e0
        obtain ⟨u1, y1, n1, g1, t1⟩ := hcell i hi 1 _ rfl
        obtain ⟨x1, e1, _, _⟩ := DataW.trod_int Tryd.underlying3 t1
        obtain rfl : u1 = _ := by simpa using e1
        obtain ⟨u2, y2, n2, g2, t2⟩ := hcell i hi 2 _ rfl
        obtain ⟨x2, e2, _, m2⟩ := DataW.trod_int Tryd.underlying23 t2
        obtain rfl : u2 = _ := by simpa using e2
        obtain ⟨z, rfl, hz⟩ := Args.nat_of_u32 m2
        exact ⟨(x0, x1, z), fun _ => ⟨g0, g1, g2, hz⟩⟩
      · exact ⟨(0, 0, 0), fun h1 => absurd h1 hi⟩
    let F := fun i => Classical.choose (each i)
    have hF : ∀ i, i < len → W.cell? ⟨b, o + i * 3, none⟩ = some (.int .i64 (F i).1) ∧ W.cell? ⟨b, o + i * 3 + 1, none⟩ = some (.int .i64 (F i).2.1) ∧ W.cell? ⟨b, o + i * 3 + 2, none⟩ = some (.int .u32 ((F i).2.2 : Int)) ∧ (F i).2.2 < 4294967296 := fun i => Classical.choose_spec (each i)
    refine ⟨some ⟨b, o, none⟩, (List.range len).map F, c, by simp, fun _ => ⟨b, o, rfl, fun i hi => ?_⟩, by simpa using hl, hm⟩
    have hi' : i < len := by simpa using hi
    simp only [List.getElem_map, List.getElem_range]
    exact hF i hi'
  · obtain rfl : len = 0 := by omega
    exact ⟨A, [], c, rfl, fun h => absurd h (by simp), Nat.zero_le _, hm⟩
end Po
end Go.Proofs.YtndbbpdggggenaaDoor
