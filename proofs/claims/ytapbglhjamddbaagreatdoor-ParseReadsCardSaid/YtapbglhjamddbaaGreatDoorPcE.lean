/- ParseReads: the law answers true, and its argument reads as it did, for every input, as the tied card says. Conditions: what the package-level variables hold when the call begins is what the program's own text lays (the card ties it); the form's own reach of an argument. -/
import Derived.Test.YtapbglhjamddbaaGreatDoorKK
import Derived.Test.YtapbglhjamddbaaGreatDoorKG
import Derived.Test.YtapbglhjamddbaaGreatDoorKt
import Derived.Test.YtapbglhjamddbaaGreatDoorKL
namespace Go.Proofs.YtapbglhjamddbaaGreatDoor
open Go.ChangeShapes Go.WideShapes Go.ChangeAt Go.RowKit Go.Joins
set_option maxRecDepth 100000
theorem parseReads_holds : Rows.ParseReadsSaid :=
  OpenClaim.holds_of_wide 3 Tryz.f3 rfl rfl rfl rfl rfl rfl rfl ⟨rfl, rfl, rfl, rfl, rfl⟩ rfl rfl rfl rfl rfl (by kernel_rfl) Tryz.func3 parseReads_facts
    (of_decide_eq_true (by kernel_rfl)) (by unfold Func.isWrapper; rw [if_neg (of_decide_eq_false (by kernel_rfl))]; exact ⟨rfl, rfl⟩)
    (fun os started H enc _ => parseReads_lifted os started H enc)
set_option maxRecDepth 100000 in
theorem parseReads_card : Rows.ParseReadsCardSaid :=
  Claim7.holds_tied_plain_at .later [] Rows.parseReadsCard.laidKinds true Rows.parseReadsCard.stood.harness Rows.parseReadsCard.stood.looks (parseReads_holds) (fun _ h => by cases h) (by kernel_rfl) (fun _ h => by cases h) parseReads_row_tie rfl ⟨rfl, rfl⟩ (by kernel_rfl) rfl
    (fun f fn hf hfn => by
      obtain rfl : f = 3 := Option.some.inj ((show Tryz.prog.funcNamed "weathercock/weathercocklaw09.ParseReads" = some 3 by kernel_rfl).symm.trans hf) |>.symm
      obtain rfl : fn = Tryz.f3 := (Option.some.inj (Tryz.func3.symm.trans hfn)).symm
      exact ⟨by kernel_rfl, fun j t ht => by
        rw [Tryz.params3] at ht
        have hm : t ∈ [9] := by simpa using Array.mem_of_getElem? ht
        have hall : ([9].all fun u => !Tryz.prog.wantsStandIn u) = true := by kernel_rfl
        exact (show Tryz.prog.wantsStandIn t = false by simpa using List.all_eq_true.1 hall t hm)⟩)
    (by kernel_rfl)
#print axioms parseReads_card
end Go.Proofs.YtapbglhjamddbaaGreatDoor
