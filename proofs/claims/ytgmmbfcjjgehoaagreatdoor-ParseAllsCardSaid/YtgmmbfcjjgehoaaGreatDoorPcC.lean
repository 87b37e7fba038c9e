/- ParseAlls: the law answers true, and its arguments read as they did, for every input, as the tied card says. Conditions: what the package-level variables hold when the call begins is what the program's own text lays (the card ties it); the form's own reach of an argument. -/
import Derived.Test.YtgmmbfcjjgehoaaGreatDoorPbG
import Derived.Test.YtgmmbfcjjgehoaaGreatDoorLcL
import Derived.Test.YtgmmbfcjjgehoaaGreatDoorWord
import Derived.Test.YtgmmbfcjjgehoaaGreatDoorPdC
import Derived.Test.YtgmmbfcjjgehoaaGreatDoorPeC
namespace Go.Proofs.YtgmmbfcjjgehoaaGreatDoor
open Go.ChangeShapes Go.WideShapes Go.ChangeAt Go.RowKit Go.Joins
set_option maxRecDepth 100000

/- FRAME -/

theorem parseAlls_holds : Rows.ParseAllsSaid :=
  OpenClaim.holds_of_wide 6 Tryz.f6 rfl rfl rfl rfl rfl rfl rfl ⟨rfl, rfl, rfl, rfl, rfl⟩ rfl rfl rfl rfl rfl (by kernel_rfl) Tryz.func6 parseAlls_facts
    (of_decide_eq_true (by kernel_rfl)) (by unfold Func.isWrapper; rw [if_neg (of_decide_eq_false (by kernel_rfl))]; exact ⟨rfl, rfl⟩)
    (fun os started H enc _ => parseAlls_lifted os started H enc)

set_option maxRecDepth 100000 in
theorem parseAlls_card : Rows.ParseAllsCardSaid :=
  Claim7.holds_tied_plain_at .later [] Rows.parseAllsCard.laidKinds true Rows.parseAllsCard.stood.harness Rows.parseAllsCard.stood.looks (parseAlls_holds) (fun _ h => by cases h) (by kernel_rfl) (fun _ h => by cases h) parseAlls_row_tie rfl ⟨rfl, rfl⟩ (by kernel_rfl) rfl
    (fun f fn hf hfn => by
      obtain rfl : f = 6 := Option.some.inj ((show Tryz.prog.funcNamed "weathercock/weathercocklaw09.ParseAlls" = some 6 by kernel_rfl).symm.trans hf) |>.symm
      obtain rfl : fn = Tryz.f6 := (Option.some.inj (Tryz.func6.symm.trans hfn)).symm
      exact ⟨by kernel_rfl, fun j t ht => by
        rw [Tryz.params6] at ht
        have hm : t ∈ [9, 9] := by simpa using Array.mem_of_getElem? ht
        have hall : ([9, 9].all fun u => !Tryz.prog.wantsStandIn u) = true := by kernel_rfl
        exact (show Tryz.prog.wantsStandIn t = false by simpa using List.all_eq_true.1 hall t hm)⟩)
    (by kernel_rfl)

#print axioms parseAlls_card

end Go.Proofs.YtgmmbfcjjgehoaaGreatDoor
