/-
  The numbers of BitsAll, opened; BitsAll at every input.
-/
import Derived.Test.YtbdjminofehloaaDoorBitsTab
import Derived.Test.YtbdjminofehloaaDoorBitsAll
namespace Go.Proofs.YtbdjminofehloaaDoor
open Go.RowKit Go.WideShapes Go.ChangeShapes
namespace Bt
open Mem

theorem open_u16s {H : Type} {enc : TypeId × Value → H} {W : World} {v : Value} {d : DataW H} {p : List MemPlace} {r : Reach} {b0 : Nat} (hv : Value.okWide Tryd.prog W r b0 44 v) (h : DataW.Trod enc Tryd.prog W 0 (fun _ => true) true 44 v d p) :
    ∃ (A : Option Addr) (ns : List Nat) (c : Nat), v = .slice A ns.length c ∧ (SL W A ns ∧ ∀ n ∈ ns, n < 65536) ∧ ns.length ≤ c ∧ c ≤ maxLen := by
  obtain ⟨A, zs, c, rfl, hN, hl, hm, hw⟩ := Args.open_nums Tryd.underlying44 Tryd.underlying46 (by kernel_rfl) hv h
  have hz : (zs.map Int.toNat).map (fun n : Nat => (n : Int)) = zs := by
    rw [List.map_map]
    refine (List.map_congr_left (g := id) fun z hz => ?_).trans (List.map_id zs)
    obtain ⟨n, hn, _⟩ := Args.nat_of_u16 (hw z hz)
    simp [hn]
  refine ⟨A, zs.map Int.toNat, c, by simp, ⟨by unfold SL; rw [hz]; exact hN, fun n hn => ?_⟩, by simpa using hl, hm⟩
  obtain ⟨z, hz, rfl⟩ := List.mem_map.1 hn
  obtain ⟨n, rfl, hlt⟩ := Args.nat_of_u16 (hw z hz)
  simpa using hlt

theorem BitsAll_walk (n : Int) (q : Option Addr) (d : Nat) (ns : List Nat) (w : World) (hs : SL w q ns ∧ ∀ x ∈ ns, x < 65536) (hl : ns.length ≤ maxLen) (_ : (Lit.int .i64 n).wf = true) (hT : Tab w) :
    Calls Tryd.prog 4 #[.int .i64 n, .slice q ns.length d] w fun e w' => e = .returned (.bool true) ∧ Below w.heap.size w w' := by
  by_cases h : 1 ≤ n ∧ n ≤ 65536
  · obtain ⟨m, rfl⟩ : ∃ m : Nat, n = m := ⟨n.toNat, by omega⟩
    exact BitsAll_in m q d ns w hT (by omega) (by omega) hs.1 hl hs.2
  · exact BitsAll_out n _ w hT h
end Bt
end Go.Proofs.YtbdjminofehloaaDoor
