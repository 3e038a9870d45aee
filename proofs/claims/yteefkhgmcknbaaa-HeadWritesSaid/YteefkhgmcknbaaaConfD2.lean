/-
  What settings ask of a block (no code).
-/
import Derived.Test.YteefkhgmcknbaaaConfD
namespace Go.Proofs.Yteefkhgmcknbaaa
open Go.RowKit
namespace Cf
def inn (fa bu ke va : Int) : Int := 8 + 4 * fa + (fa - 1) * (1 + ke) + bu * (4 + ke + va)
def out (le ke va : Int) : Int := 8 + le * (3 + ke + va)
theorem mul_in {a c A C : Int} (h0 : 0 ≤ a) (h1 : a ≤ A) (h2 : 0 ≤ c) (h3 : c ≤ C) : 0 ≤ a * c ∧ a * c ≤ A * C :=
  ⟨Int.mul_nonneg h0 h2, Int.mul_le_mul h1 h3 h2 (Int.le_trans h0 h1)⟩
/-- the fewest bytes -/
def few (fa bu le ke va : Int) : Int := max (max 64 (inn fa bu ke va)) (out le ke va)
theorem inn_in {fa bu le ke va : Int} (h : Shape fa bu le ke va) : 0 ≤ inn fa bu ke va ∧ inn fa bu ke va ≤ 200000 := by
  obtain ⟨⟨h1, h1'⟩, ⟨h2, h2'⟩, ⟨h3, h3'⟩, ⟨h4, h4'⟩, h5, h5'⟩ := h
  obtain ⟨p0, p1⟩ := mul_in (a := fa - 1) (c := 1 + ke) (A := 63) (C := 65) (by omega) (by omega) (by omega) (by omega)
  obtain ⟨s0, s1⟩ := mul_in (a := bu) (c := 4 + ke + va) (A := 512) (C := 324) (by omega) (by omega) (by omega) (by omega)
  unfold inn
  generalize (fa - 1) * (1 + ke) = P at *
  generalize bu * (4 + ke + va) = Q at *
  omega
theorem out_in {fa bu le ke va : Int} (h : Shape fa bu le ke va) : 0 ≤ out le ke va ∧ out le ke va ≤ 400000 := by
  obtain ⟨⟨h1, h1'⟩, ⟨h2, h2'⟩, ⟨h3, h3'⟩, ⟨h4, h4'⟩, h5, h5'⟩ := h
  obtain ⟨p0, p1⟩ := mul_in (a := le) (c := 3 + ke + va) (A := 1024) (C := 323) (by omega) (by omega) (by omega) (by omega)
  unfold out
  generalize le * (3 + ke + va) = P at *
  omega
end Cf
end Go.Proofs.Yteefkhgmcknbaaa
namespace Go.Proofs.Yteefkhgmcknbaaa
open Go.RowKit
namespace Cf
/-- settings are right -/
def Right (b y fr fa bu le ke va : Int) : Prop := Shape fa bu le ke va ∧ (5 ≤ b ∧ b ≤ 65536) ∧ (8 ≤ fr ∧ fr ≤ 64) ∧ (few fa bu le ke va ≤ y ∧ y ≤ 65536)
end Cf
end Go.Proofs.Yteefkhgmcknbaaa
