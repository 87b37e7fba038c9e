/- The row's closed facts, one by one: a process has not the memory to see them at once. -/
import Derived.Test.YtgmmbfcjjgehoaaGreatDoorPdC
namespace Go.Proofs.YtgmmbfcjjgehoaaGreatDoor
open Go.ChangeShapes Go.WideShapes Go.ChangeAt Go.RowKit Go.Joins
set_option maxRecDepth 100000

set_option maxHeartbeats 8000000 in
theorem parseAlls_facts : joinedFacts Tryz.prog 6 Tryz.f6 Rows.parseAllsSpec Rows.parseAllsRow = true := by
  unfold joinedFacts
  repeat' (first | (refine Bool.and_eq_true_iff.2 ⟨?_, ?_⟩))
  all_goals (as_aux_lemma => kernel_rfl)

end Go.Proofs.YtgmmbfcjjgehoaaGreatDoor
