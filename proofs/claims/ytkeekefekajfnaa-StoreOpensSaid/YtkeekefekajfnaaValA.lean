/- What the smallest functions of package value, and of its law package, answer: one sentence each, for every value. -/
import Derived.Test.YtkeekefekajfnaaVal
namespace Go.Proofs.Ytkeekefekajfnaa
open Go.RowKit

set_option maxHeartbeats 400000 in
theorem right_any (x : Val) (w : World) :
    Calls Try.prog 58 #[x.v] w fun e w' => e = .returned (.bool x.right) ∧ Below w.heap.size w w' := by
  obtain ⟨k, n, s⟩ := x
  go_enter Try.func58, Try.ntmps58
  go_wp2
  all_goals go_ret
  all_goals refine ⟨?_, (Below.refl _ _).alloc (Nat.le_refl _) _⟩
  all_goals first | (simp_all [Val.right]; done) | (simp_all [Val.right]; omega)

set_option maxHeartbeats 400000 in
theorem rright_any (x : Val) (w : World) :
    Calls Try.prog 44 #[x.v] w fun e w' => e = .returned (.bool x.right) ∧ Below w.heap.size w w' := by
  obtain ⟨k, n, s⟩ := x
  go_enter Try.func44, Try.ntmps44
  go_wp2
  all_goals go_ret
  all_goals refine ⟨?_, (Below.refl _ _).alloc (Nat.le_refl _) _⟩
  all_goals first | (simp_all [Val.right]; done) | (simp_all [Val.right]; omega)

end Go.Proofs.Ytkeekefekajfnaa
