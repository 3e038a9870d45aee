/-
  The table of math/bits, as a row lists it.
-/
import Derived.Test.YtndbbpdggggenaaDoorBitsWord
import Derived.Lib.LaidTab
import Derived.LaidMore
namespace Go.Proofs.YtndbbpdggggenaaDoor
open Go.RowKit
namespace Bt

def tabZ : List Int := Lib.deBruijn64tab.map fun n : Nat => (n : Int)
theorem gTab : Tryd.prog.globalNamed "math/bits.deBruijn64tab" = some 0 := by kernel_rfl
theorem tTab : (Tryd.prog.globals[0]?).map (·.type) = some 73 := by kernel_rfl
theorem tab_of_laid {W : World} (h : laidMet Tryd.prog [("math/bits.deBruijn64tab", Lib.tabData .u8 tabZ)] W) : Tab W := by
  have ht := Lib.tabIs_of_head gTab tTab Tryd.underlying73 Tryd.underlying5 (by kernel_rfl) (by kernel_rfl) h
  intro j hj
  have hl : Lib.deBruijn64tab.length = 64 := by decide
  have := ht.cell gTab j (by simp [tabZ]; omega)
  rw [this]
  have : j < Lib.deBruijn64tab.length := by omega
  simp [tabZ, List.getD, this]

end Bt
end Go.Proofs.YtndbbpdggggenaaDoor
