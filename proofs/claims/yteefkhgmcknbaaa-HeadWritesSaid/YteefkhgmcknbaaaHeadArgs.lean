/-
  A head as an argument, opened: settings, the root's number, the tree's height, ten cells side by side.
-/
import Derived.Test.YteefkhgmcknbaaaArgs
import Derived.Test.YteefkhgmcknbaaaChecked
import Derived.Deep.Fields
namespace Go.Proofs.Yteefkhgmcknbaaa
open Go.RowKit Go.WideShapes Go.ChangeShapes Go.Deep
namespace Hd
theorem array10 {α : Type} {cs : Array α} (h : cs.size = 10) : ∃ c0 c1 c2 c3 c4 c5 c6 c7 c8 c9, cs = #[c0, c1, c2, c3, c4, c5, c6, c7, c8, c9] := by
  obtain ⟨l⟩ := cs
  match l, h with
  | [c0, c1, c2, c3, c4, c5, c6, c7, c8, c9], _ => exact ⟨c0, c1, c2, c3, c4, c5, c6, c7, c8, c9, rfl⟩
theorem one_of {u : Value} {L : List Value} {j : Nat} (h : L[j]? = some u) : (L.drop j).take 1 = [u] := by
  rw [List.getElem?_eq_some_iff] at h
  obtain ⟨h2, h3⟩ := h
  rw [List.drop_eq_getElem_cons h2, h3]
  rfl
theorem cfg_one : oneCellFields Try.prog (Try.prog.fieldsOf 23) = true := by kernel_rfl
theorem cfg_at (j : Nat) (hj : j < 8) : ∃ f, (Try.prog.fieldsOf 23)[j]? = some f ∧ f.type = 3 := by
  have h : ∀ j : Fin 8, ((Try.prog.fieldsOf 23)[j.val]?.map fun f => f.type) = some 3 := by decide +kernel
  have := h ⟨j, hj⟩
  rw [Option.map_eq_some_iff] at this
  exact this
set_option maxRecDepth 100000 in
theorem open_head {H : Type} {enc : TypeId × Value → H} {W : World} {v : Value} {d : DataW H} {p : List MemPlace} {r : Reach} {b0 : Nat} (hv : Value.okWide Try.prog W r b0 26 v) (h : DataW.Trod enc Try.prog W 0 (fun _ => true) true 26 v d p) :
    ∃ (b y fr fa bu le ke va : Int) (root : Nat) (ht : Int), v = .agg #[.int .i64 b, .int .i64 y, .int .i64 fr, .int .i64 fa, .int .i64 bu, .int .i64 le, .int .i64 ke, .int .i64 va, .int .u32 (root : Int), .int .i64 ht] ∧ root < 4294967296 := by
  have hu : Try.prog.underlying 26 = some (.struct (Try.prog.fieldsOf 26)) := by kernel_rfl
  have hu2 : Try.prog.underlying 23 = some (.struct (Try.prog.fieldsOf 23)) := by kernel_rfl
  obtain ⟨cs, rfl, hsz⟩ := okWide_struct hu hv
  have h10 : Try.prog.cellsOf 26 = 10 := by kernel_rfl
  rw [h10] at hsz
  obtain ⟨fuel, hf⟩ := h
  obtain ⟨ys, n', _, _, hlen, hyl, hfl⟩ := DataW.trod_struct hu hf
  have top : ∀ (j : Nat) (T : TypeId) (o k : Nat), ((Try.prog.fieldsOf 26)[j]?.map fun f => (f.type, f.offset, Try.prog.cellsOf f.type)) = some (T, o, k) → ∃ y, DataW.trod enc Try.prog W 0 (fun _ => true) true n' T ((cs.toList.drop o).take k) = some y := fun j T o k hT => by
    rw [Option.map_eq_some_iff] at hT
    obtain ⟨f, hfj, he⟩ := hT
    simp only [Prod.mk.injEq] at he
    obtain ⟨rfl, rfl, rfl⟩ := he
    have h1 := hfl j f hfj
    have hj' : j < ys.length := by
      rw [hyl]
      exact (Array.getElem?_eq_some_iff.1 hfj).1
    rw [List.getElem?_eq_getElem hj'] at h1
    exact ⟨_, h1⟩
  obtain ⟨c0, c1, c2, c3, c4, c5, c6, c7, c8, c9, rfl⟩ := array10 hsz
  obtain ⟨y0, g0⟩ := top 0 23 0 8 (by decide +kernel)
  obtain ⟨y1, g1⟩ := top 1 24 8 1 (by decide +kernel)
  obtain ⟨y2, g2⟩ := top 2 3 9 1 (by decide +kernel)
  clear top hfl hf hv
  simp only [List.drop_zero, List.drop_succ_cons, List.take_succ_cons, List.take_zero] at g0 g1 g2
  obtain ⟨zs, n2, _, _, hlen2, hzl, hfl2⟩ := DataW.trod_struct hu2 g0
  have each : ∀ (j : Nat) (u : Value), [c0, c1, c2, c3, c4, c5, c6, c7][j]? = some u → ∃ z, u = .int .i64 z := fun j u hj => by
    have hj8 : j < 8 := (List.getElem?_eq_some_iff.1 hj).1
    obtain ⟨f, hfj, hft⟩ := cfg_at j hj8
    obtain ⟨ho, hk⟩ := hone_of cfg_one j f hfj
    have h1 := hfl2 j f hfj
    rw [ho, hk, hft, one_of hj] at h1
    have hj' : j < zs.length := by
      rw [hzl]
      exact (Array.getElem?_eq_some_iff.1 hfj).1
    rw [List.getElem?_eq_getElem hj'] at h1
    obtain ⟨z, hz, _, _⟩ := DataW.trod_int Try.underlying3 h1
    exact ⟨z, by simpa using hz⟩
  obtain ⟨z0, rfl⟩ := each 0 c0 rfl
  obtain ⟨z1, rfl⟩ := each 1 c1 rfl
  obtain ⟨z2, rfl⟩ := each 2 c2 rfl
  obtain ⟨z3, rfl⟩ := each 3 c3 rfl
  obtain ⟨z4, rfl⟩ := each 4 c4 rfl
  obtain ⟨z5, rfl⟩ := each 5 c5 rfl
  obtain ⟨z6, rfl⟩ := each 6 c6 rfl
  obtain ⟨z7, rfl⟩ := each 7 c7 rfl
  obtain ⟨zr, hzr, _, hwr⟩ := DataW.trod_int Try.underlying24 g1
  obtain ⟨zh, hzh, _, _⟩ := DataW.trod_int Try.underlying3 g2
  obtain rfl : c8 = _ := by simpa using hzr
  obtain rfl : c9 = _ := by simpa using hzh
  obtain ⟨rn, rfl, hrn⟩ := Args.nat_of_u32 hwr
  exact ⟨z0, z1, z2, z3, z4, z5, z6, z7, rn, zh, rfl, hrn⟩
end Hd
end Go.Proofs.Yteefkhgmcknbaaa
