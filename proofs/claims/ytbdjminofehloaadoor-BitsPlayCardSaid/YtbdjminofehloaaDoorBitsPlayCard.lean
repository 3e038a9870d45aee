/-
  BitsPlay: the row's variables are tied to the program's text: the card.
-/
import Derived.Test.YtbdjminofehloaaDoorBitsPlayProof
import Derived.Test.YtbdjminofehloaaDoorCards
import Derived.Test.YtbdjminofehloaaDoorTie
import Derived.SevenTiedAt
namespace Go.Proofs.YtbdjminofehloaaDoor.BitsPlay
open Go

theorem card : Rows.BitsPlayCardSaid :=
  Claim7.holds_tied_plain_at .later [] [.data] true Rows.bitsPlayCard.stood.harness false
    holds (fun _ h => by cases h) (by kernel_rfl) (fun _ h => by cases h) bitsPlay_row_tie rfl ⟨rfl, rfl⟩ (by kernel_rfl) rfl
    (fun f fn hf hfn => by
      obtain rfl : f = 3 := Option.some.inj ((show Tryd.prog.funcNamed "sluicegate/sluicegatelaw04.BitsPlay" = some 3 by kernel_rfl).symm.trans hf) |>.symm
      obtain rfl : fn = Tryd.f3 := (Option.some.inj (Tryd.func3.symm.trans hfn)).symm
      exact ⟨by kernel_rfl, fun j t ht => by
        rw [Tryd.params3] at ht
        have hm : t ∈ [3, 22, 3] := by simpa using Array.mem_of_getElem? ht
        have hall : ([3, 22, 3].all fun u => !Tryd.prog.wantsStandIn u) = true := by kernel_rfl
        exact (show Tryd.prog.wantsStandIn t = false by simpa using List.all_eq_true.1 hall t hm)⟩)
    (by kernel_rfl)
end Go.Proofs.YtbdjminofehloaaDoor.BitsPlay
