/-
  Settings as an argument, opened.
-/
import Derived.Test.YtlcdjbleeanpbaaArgs
import Derived.Test.YtlcdjbleeanpbaaChecked
import Derived.Deep.Fields
namespace Go.Proofs.Ytlcdjbleeanpbaa
open Go.RowKit Go.WideShapes Go.ChangeShapes Go.Deep
namespace Cf
theorem array8 {α : Type} {cs : Array α} (h : cs.size = 8) : ∃ c0 c1 c2 c3 c4 c5 c6 c7, cs = #[c0, c1, c2, c3, c4, c5, c6, c7] := by
  obtain ⟨l⟩ := cs
  match l, h with
  | [c0, c1, c2, c3, c4, c5, c6, c7], _ => exact ⟨c0, c1, c2, c3, c4, c5, c6, c7, rfl⟩
theorem cfg_one : oneCellFields Try.prog (Try.prog.fieldsOf 23) = true := by kernel_rfl
theorem cfg_at (j : Nat) (hj : j < 8) : ∃ f, (Try.prog.fieldsOf 23)[j]? = some f ∧ f.type = 3 := by
  have h : ∀ j : Fin 8, ((Try.prog.fieldsOf 23)[j.val]?.map fun f => f.type) = some 3 := by decide +kernel
  have := h ⟨j, hj⟩
  rw [Option.map_eq_some_iff] at this
  exact this
set_option maxRecDepth 100000 in
theorem open_cfg {H : Type} {enc : TypeId × Value → H} {W : World} {v : Value} {d : DataW H} {p : List MemPlace} {r : Reach} {b0 : Nat} (hv : Value.okWide Try.prog W r b0 23 v) (h : DataW.Trod enc Try.prog W 0 (fun _ => true) true 23 v d p) :
    ∃ b y fr fa bu le ke va : Int, v = .agg #[.int .i64 b, .int .i64 y, .int .i64 fr, .int .i64 fa, .int .i64 bu, .int .i64 le, .int .i64 ke, .int .i64 va] := by
  have hu : Try.prog.underlying 23 = some (.struct (Try.prog.fieldsOf 23)) := by kernel_rfl
  obtain ⟨cs, rfl, hsz⟩ := okWide_struct hu hv
  have h8 : Try.prog.cellsOf 23 = 8 := by kernel_rfl
  rw [h8] at hsz
  obtain ⟨fuel, hf⟩ := h
  obtain ⟨ys, n', _, _, hlen, hyl, hfl⟩ := DataW.trod_struct hu hf
  have each : ∀ (j : Nat) (u : Value), cs[j]? = some u → ∃ z, u = .int .i64 z := fun j u hj => by
    have hj8 : j < 8 := by
      rw [← hsz]
      exact (Array.getElem?_eq_some_iff.1 hj).1
    obtain ⟨f, hfj, hft⟩ := cfg_at j hj8
    obtain ⟨ho, hk⟩ := hone_of cfg_one j f hfj
    have h1 := hfl j f hfj
    rw [ho, hk, hft] at h1
    have hu1 : ((Value.agg cs).cells.toList.drop j).take 1 = [u] := by
      simp only [Value.cells]
      have hl : cs.toList[j]? = some u := by simpa using hj
      rw [List.getElem?_eq_some_iff] at hl
      obtain ⟨h2, h3⟩ := hl
      rw [List.drop_eq_getElem_cons h2, h3]
      rfl
    rw [hu1] at h1
    have hj' : j < ys.length := by
      rw [hyl]
      exact (Array.getElem?_eq_some_iff.1 hfj).1
    rw [List.getElem?_eq_getElem hj'] at h1
    obtain ⟨z, hz, _, _⟩ := DataW.trod_int Try.underlying3 h1
    exact ⟨z, by simpa using hz⟩
  obtain ⟨c0, c1, c2, c3, c4, c5, c6, c7, rfl⟩ := array8 hsz
  obtain ⟨z0, rfl⟩ := each 0 c0 rfl
  obtain ⟨z1, rfl⟩ := each 1 c1 rfl
  obtain ⟨z2, rfl⟩ := each 2 c2 rfl
  obtain ⟨z3, rfl⟩ := each 3 c3 rfl
  obtain ⟨z4, rfl⟩ := each 4 c4 rfl
  obtain ⟨z5, rfl⟩ := each 5 c5 rfl
  obtain ⟨z6, rfl⟩ := each 6 c6 rfl
  obtain ⟨z7, rfl⟩ := each 7 c7 rfl
  exact ⟨z0, z1, z2, z3, z4, z5, z6, z7, rfl⟩
end Cf
end Go.Proofs.Ytlcdjbleeanpbaa
