/- ParseOrder: the law answers true, and its arguments read as they did, for every input, as the tied card says. Conditions: what the package-level variables hold when the call begins is what the program's own text lays (the card ties it); the form's own reach of an argument. -/
import Derived.Test.YtgmmbfcjjgehoaaGreatDoorPbO
import Derived.Test.YtgmmbfcjjgehoaaGreatDoorLcL
import Derived.Test.YtgmmbfcjjgehoaaGreatDoorPdD
import Derived.Test.YtgmmbfcjjgehoaaGreatDoorPeD
namespace Go.Proofs.YtgmmbfcjjgehoaaGreatDoor
open Go.ChangeShapes Go.WideShapes Go.ChangeAt Go.RowKit Go.Joins
set_option maxRecDepth 100000

/- FRAME -/

theorem parseOrder_holds : Rows.ParseOrderSaid :=
  OpenClaim.holds_of_wide 7 Tryz.f7 rfl rfl rfl rfl rfl rfl rfl ⟨rfl, rfl, rfl, rfl, rfl⟩ rfl rfl rfl rfl rfl (by kernel_rfl) Tryz.func7 parseOrder_facts
    (of_decide_eq_true (by kernel_rfl)) (by unfold Func.isWrapper; rw [if_neg (of_decide_eq_false (by kernel_rfl))]; exact ⟨rfl, rfl⟩)
    (fun os started H enc _ => parseOrder_lifted os started H enc)

set_option maxRecDepth 100000 in
theorem parseOrder_card : Rows.ParseOrderCardSaid :=
  Claim7.holds_tied_plain_at .later [] Rows.parseOrderCard.laidKinds true Rows.parseOrderCard.stood.harness Rows.parseOrderCard.stood.looks (parseOrder_holds) (fun _ h => by cases h) (by kernel_rfl) (fun _ h => by cases h) parseOrder_row_tie rfl ⟨rfl, rfl⟩ (by kernel_rfl) rfl
    (fun f fn hf hfn => by
      obtain rfl : f = 7 := Option.some.inj ((show Tryz.prog.funcNamed "weathercock/weathercocklaw09.ParseOrder" = some 7 by kernel_rfl).symm.trans hf) |>.symm
      obtain rfl : fn = Tryz.f7 := (Option.some.inj (Tryz.func7.symm.trans hfn)).symm
      exact ⟨by kernel_rfl, fun j t ht => by
        rw [Tryz.params7] at ht
        have hm : t ∈ [9, 42, 43] := by simpa using Array.mem_of_getElem? ht
        have hall : ([9, 42, 43].all fun u => !Tryz.prog.wantsStandIn u) = true := by kernel_rfl
        exact (show Tryz.prog.wantsStandIn t = false by simpa using List.all_eq_true.1 hall t hm)⟩)
    (by kernel_rfl)

#print axioms parseOrder_card

end Go.Proofs.YtgmmbfcjjgehoaaGreatDoor
