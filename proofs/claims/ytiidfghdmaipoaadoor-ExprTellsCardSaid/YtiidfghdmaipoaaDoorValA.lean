/- What the smallest functions of package value, and of its law package, answer: one sentence each, for every value. -/
import Derived.Test.YtiidfghdmaipoaaDoorVal
namespace Go.Proofs.YtiidfghdmaipoaaDoor
open Go.RowKit

set_option maxHeartbeats 400000 in
theorem right_any (x : Val) (w : World) :
    Calls Tryd.prog 70 #[x.v] w fun e w' => e = .returned (.bool x.right) ∧ Below w.heap.size w w' := by
  obtain ⟨k, n, s⟩ := x
  go_enter Tryd.func70, Tryd.ntmps70
  go_wp2
  all_goals go_ret
  all_goals refine ⟨?_, (Below.refl _ _).alloc (Nat.le_refl _) _⟩
  all_goals first | (simp_all [Val.right]; done) | (simp_all [Val.right]; omega)

set_option maxHeartbeats 400000 in
theorem rright_any (x : Val) (w : World) :
    Calls Tryd.prog 56 #[x.v] w fun e w' => e = .returned (.bool x.right) ∧ Below w.heap.size w w' := by
  obtain ⟨k, n, s⟩ := x
  go_enter Tryd.func56, Tryd.ntmps56
  go_wp2
  all_goals go_ret
  all_goals refine ⟨?_, (Below.refl _ _).alloc (Nat.le_refl _) _⟩
  all_goals first | (simp_all [Val.right]; done) | (simp_all [Val.right]; omega)

set_option maxHeartbeats 400000 in
theorem isNull_any (x : Val) (w : World) :
    Calls Tryd.prog 76 #[x.v] w fun e w' => e = .returned (.bool (x.k == 0)) ∧ Below w.heap.size w w' := by
  obtain ⟨k, n, s⟩ := x
  go_enter Tryd.func76, Tryd.ntmps76
  go_wp2
  go_ret
  exact ⟨rfl, (Below.refl _ _).alloc (Nat.le_refl _) _⟩

set_option maxHeartbeats 400000 in
theorem number_any (k : Int) (w : World) :
    Calls Tryd.prog 72 #[.int .i64 k] w fun e w' => e = .returned (num k).v ∧ Below w.heap.size w w' := by
  go_enter Tryd.func72, Tryd.ntmps72
  go_wp2
  (refine bodyPost_ret (v := (num k).v) (by simp [results, Tryd.results72, go_sem]) rfl ⟨rfl, ?_⟩)
  (repeat (first | exact ext_refl _ | assumption | (refine ext_alloc ?_ _) | (refine ext_drewN ?_ _) | refine ext_drew ?_ | (refine ext_set (by first | (simp; done) | (simp; omega)) _ ?_) | (refine ext_trans ?_ (by assumption))))

set_option maxHeartbeats 400000 in
theorem truth_any (k : Int) (w : World) :
    Calls Tryd.prog 74 #[.int .i64 k] w fun e w' => e = .returned (tru k).v ∧ Below w.heap.size w w' := by
  go_enter Tryd.func74, Tryd.ntmps74
  go_wp2
  (refine bodyPost_ret (v := (tru k).v) (by simp [results, Tryd.results74, go_sem]) rfl ⟨rfl, ?_⟩)
  (repeat (first | exact ext_refl _ | assumption | (refine ext_alloc ?_ _) | (refine ext_drewN ?_ _) | refine ext_drew ?_ | (refine ext_set (by first | (simp; done) | (simp; omega)) _ ?_) | (refine ext_trans ?_ (by assumption))))

set_option maxHeartbeats 400000 in
theorem nullOr_any (kd : Int) (x : Val) (w : World) :
    Calls Tryd.prog 75 #[.int .i64 kd, x.v] w fun e w' => e = .returned (.bool (x.nullOr kd)) ∧ Below w.heap.size w w' := by
  obtain ⟨k, n, s⟩ := x
  cases hr : Val.right ⟨k, n, s⟩
  all_goals have Hr := Lib.hid hr
  all_goals clear hr
  all_goals cases hk : k == 0
  all_goals go_enter Tryd.func75, Tryd.ntmps75
  all_goals go_wp2_with (first | (go_at_call 70; go_must (refine (right_any ⟨_, _, _⟩ _).mono ?_; rintro e w1 ⟨rfl, hb⟩; obtain ⟨hc, hz, hf⟩ := kept hb; rw [Hr.out])) | (go_at_call 76; go_must (refine (isNull_any ⟨_, _, _⟩ _).mono ?_; rintro e w1 ⟨rfl, hb⟩; obtain ⟨hc, hz, hf⟩ := kept hb; dsimp only; rw [hk])))
  all_goals go_ret
  all_goals (refine ⟨by simp [Val.nullOr, Hr.out, hk], ?_⟩; (repeat (first | exact ext_refl _ | assumption | (refine ext_alloc ?_ _) | (refine ext_drewN ?_ _) | refine ext_drew ?_ | (refine ext_set (by first | (simp; done) | (simp; omega)) _ ?_) | (refine ext_trans ?_ (by assumption)))))

end Go.Proofs.YtiidfghdmaipoaaDoor
