/-
  The calls of BitsPlay, opened; the table that the row lists; BitsPlay at every input.
-/
import Derived.Test.YtbdjminofehloaaDoorStructs
import Derived.Test.YtbdjminofehloaaDoorArgs
import Derived.Test.YtbdjminofehloaaDoorBitsPlay2
import Derived.Lib.LaidTab
import Derived.LaidMore
namespace Go.Proofs.YtbdjminofehloaaDoor
open Go.RowKit Go.WideShapes Go.ChangeShapes
namespace Bt
open Mem

theorem open_acts {H : Type} {enc : TypeId × Value → H} {W : World} {v : Value} {d : DataW H} {p : List MemPlace} {r : Reach} {b0 : Nat} (hv : Value.okWide Tryd.prog W r b0 22 v) (h : DataW.Trod enc Tryd.prog W 0 (fun _ => true) true 22 v d p) :
    ∃ (A : Option Addr) (ac : List (Int × Int)) (c : Nat), v = .slice A ac.length c ∧ ActL W A ac ∧ ac.length ≤ c ∧ c ≤ maxLen := by
  obtain ⟨A, len, c, rfl, hl, hm, hc⟩ := Args.open_structs Tryd.underlying22 Tryd.underlying32 (by kernel_rfl) (by kernel_rfl) (by decide) hv h
  by_cases h0 : 0 < len
  · obtain ⟨b, o, rfl, hcell⟩ := hc h0
    have each : ∀ i, i < len → ∀ j, j < 2 → ∃ n : Int, W.cell? ⟨b, o + (i * 2 + j), none⟩ = some (.int .i64 n) := by
      intro i hi j hj
      match j, hj with
      | 0, _ =>
        obtain ⟨u, y, n, h1, h2⟩ := hcell i hi 0 _ rfl
        obtain ⟨n', hn, _, _⟩ := DataW.trod_int Tryd.underlying3 h2
        obtain rfl : u = _ := by simpa using hn
        exact ⟨n', h1⟩
      | 1, _ =>
        obtain ⟨u, y, n, h1, h2⟩ := hcell i hi 1 _ rfl
        obtain ⟨n', hn, _, _⟩ := DataW.trod_int Tryd.underlying3 h2
        obtain rfl : u = _ := by simpa using hn
        exact ⟨n', h1⟩
    have each' : ∀ i j, ∃ n : Int, i < len → j < 2 → W.cell? ⟨b, o + (i * 2 + j), none⟩ = some (.int .i64 n) := fun i j => by
      by_cases hh : i < len ∧ j < 2
      · obtain ⟨n, hn⟩ := each i hh.1 j hh.2
        exact ⟨n, fun _ _ => hn⟩
      · exact ⟨0, fun h1 h2 => absurd ⟨h1, h2⟩ hh⟩
    let F := fun i j => Classical.choose (each' i j)
    have hF : ∀ i j, i < len → j < 2 → W.cell? ⟨b, o + (i * 2 + j), none⟩ = some (.int .i64 (F i j)) := fun i j => Classical.choose_spec (each' i j)
    refine ⟨some ⟨b, o, none⟩, (List.range len).map fun i => (F i 0, F i 1), c, by simp, fun _ => ⟨b, o, rfl, fun i hi => ?_⟩, by simpa using hl, hm⟩
    have hi' : i < len := by simpa using hi
    have e0 := hF i 0 hi' (by decide)
    have e1 := hF i 1 hi' (by decide)
    rw [show o + (i * 2 + 0) = o + i * 2 by omega] at e0
    rw [show o + (i * 2 + 1) = o + i * 2 + 1 by omega] at e1
    simp only [List.getElem_map, List.getElem_range]
    exact ⟨e0, e1⟩
  · obtain rfl : len = 0 := by omega
    exact ⟨A, [], c, rfl, fun h => absurd h (by simp), Nat.zero_le _, hm⟩

/-! ### the library's table, as the row lists it -/
def tabZ : List Int := Lib.deBruijn64tab.map fun n : Nat => (n : Int)
theorem gTab : Tryd.prog.globalNamed "math/bits.deBruijn64tab" = some 0 := by kernel_rfl
theorem tTab : (Tryd.prog.globals[0]?).map (·.type) = some 58 := by kernel_rfl
theorem tab_of_laid {W : World} (h : laidMet Tryd.prog [("math/bits.deBruijn64tab", Lib.tabData .u8 tabZ)] W) : Tab W := by
  have ht := Lib.tabIs_of_head gTab tTab Tryd.underlying58 Tryd.underlying5 (by kernel_rfl) (by kernel_rfl) h
  intro j hj
  have hl : Lib.deBruijn64tab.length = 64 := by decide
  have := ht.cell gTab j (by simp [tabZ]; omega)
  rw [this]
  have : j < Lib.deBruijn64tab.length := by omega
  simp [tabZ, List.getD, this]

theorem BitsPlay_walk (n : Int) (q : Option Addr) (d : Nat) (ac : List (Int × Int)) (ask : Int) (w : World) (ha : ActL w q ac) (hda : ac.length ≤ maxLen) (_ : (Lit.int .i64 n).wf = true) (ma : (Lit.int .i64 ask).wf = true) (hT : Tab w) :
    Calls Tryd.prog 3 #[.int .i64 n, .slice q ac.length d, .int .i64 ask] w fun e w' => e = .returned (.bool true) ∧ Below w.heap.size w w' := by
  have hask := (Args.i64_bounds ma).2
  by_cases h : 1 ≤ n ∧ n ≤ 65536
  · obtain ⟨m, rfl⟩ : ∃ m : Nat, n = m := ⟨n.toNat, by omega⟩
    by_cases h3 : m ≤ 300
    · exact BitsPlay_in m q d ac ask w hT (by omega) h3 ha hda hask
    · exact BitsPlay_great m _ ask w hT (by omega) (by omega)
  · exact BitsPlay_out n _ ask w hT h
end Bt
end Go.Proofs.YtbdjminofehloaaDoor
