/-
  PoolNobody: the row's variables are tied to the program's text: the card.
-/
import Derived.Test.YtndbbpdggggenaaDoorPoolNobodyProof
import Derived.Test.YtndbbpdggggenaaDoorCards
import Derived.Test.YtndbbpdggggenaaDoorTie
import Derived.SevenTiedAt
namespace Go.Proofs.YtndbbpdggggenaaDoor.PoolNobody
open Go

theorem card : Rows.PoolNobodyCardSaid :=
  Claim7.holds_tied_plain_at .later [] [.data] true Rows.poolNobodyCard.stood.harness false
    holds (fun _ h => by cases h) (by kernel_rfl) (fun _ h => by cases h) poolNobody_row_tie rfl ⟨rfl, rfl⟩ (by kernel_rfl) rfl
    (fun f fn hf hfn => by
      obtain rfl : f = 5 := Option.some.inj ((show Tryd.prog.funcNamed "sluicegate/sluicegatelaw07.PoolNobody" = some 5 by kernel_rfl).symm.trans hf) |>.symm
      obtain rfl : fn = Tryd.f5 := (Option.some.inj (Tryd.func5.symm.trans hfn)).symm
      exact ⟨by kernel_rfl, fun j t ht => by
        rw [Tryd.params5] at ht
        have hm : t ∈ [23, 3] := by simpa using Array.mem_of_getElem? ht
        have hall : ([23, 3].all fun u => !Tryd.prog.wantsStandIn u) = true := by kernel_rfl
        exact (show Tryd.prog.wantsStandIn t = false by simpa using List.all_eq_true.1 hall t hm)⟩)
    (by kernel_rfl)
end Go.Proofs.YtndbbpdggggenaaDoor.PoolNobody
