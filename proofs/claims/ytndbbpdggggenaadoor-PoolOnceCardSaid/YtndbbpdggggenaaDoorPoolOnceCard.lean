/-
  PoolOnce: the row's variables are tied to the program's text: the card.
-/
import Derived.Test.YtndbbpdggggenaaDoorPoolOnceProof
import Derived.Test.YtndbbpdggggenaaDoorCards
import Derived.Test.YtndbbpdggggenaaDoorTie
import Derived.SevenTiedAt
namespace Go.Proofs.YtndbbpdggggenaaDoor.PoolOnce
open Go

theorem card : Rows.PoolOnceCardSaid :=
  Claim7.holds_tied_plain_at .later [] [.data] true Rows.poolOnceCard.stood.harness false
    holds (fun _ h => by cases h) (by kernel_rfl) (fun _ h => by cases h) poolOnce_row_tie rfl ⟨rfl, rfl⟩ (by kernel_rfl) rfl
    (fun f fn hf hfn => by
      obtain rfl : f = 4 := Option.some.inj ((show Tryd.prog.funcNamed "sluicegate/sluicegatelaw07.PoolOnce" = some 4 by kernel_rfl).symm.trans hf) |>.symm
      obtain rfl : fn = Tryd.f4 := (Option.some.inj (Tryd.func4.symm.trans hfn)).symm
      exact ⟨by kernel_rfl, fun j t ht => by
        rw [Tryd.params4] at ht
        have hm : t ∈ [5, 22] := by simpa using Array.mem_of_getElem? ht
        have hall : ([5, 22].all fun u => !Tryd.prog.wantsStandIn u) = true := by kernel_rfl
        exact (show Tryd.prog.wantsStandIn t = false by simpa using List.all_eq_true.1 hall t hm)⟩)
    (by kernel_rfl)
end Go.Proofs.YtndbbpdggggenaaDoor.PoolOnce
