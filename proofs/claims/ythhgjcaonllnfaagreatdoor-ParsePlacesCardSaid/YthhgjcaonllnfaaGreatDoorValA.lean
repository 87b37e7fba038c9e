/- What the smallest functions of package value, and of its law package, answer: one sentence each, for every value. -/
import Derived.Test.YthhgjcaonllnfaaGreatDoorVal
namespace Go.Proofs.YthhgjcaonllnfaaGreatDoor
open Go.RowKit

set_option maxHeartbeats 400000 in
theorem right_any (x : Val) (w : World) :
    Calls Tryz.prog 79 #[x.v] w fun e w' => e = .returned (.bool x.right) ∧ Below w.heap.size w w' := by
  obtain ⟨k, n, s⟩ := x
  go_enter Tryz.func79, Tryz.ntmps79
  go_wp2
  all_goals go_ret
  all_goals refine ⟨?_, (Below.refl _ _).alloc (Nat.le_refl _) _⟩
  all_goals first | (simp_all [Val.right]; done) | (simp_all [Val.right]; omega)

end Go.Proofs.YthhgjcaonllnfaaGreatDoor
