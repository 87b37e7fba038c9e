/- What the smallest functions of package value, and of its law package, answer: one sentence each, for every value. -/
import Derived.Test.YthdnbcdcfaocmaaDoorVal
namespace Go.Proofs.YthdnbcdcfaocmaaDoor
open Go.RowKit

set_option maxHeartbeats 400000 in
theorem right_any (x : Val) (w : World) :
    Calls Tryd.prog 32 #[x.v] w fun e w' => e = .returned (.bool x.right) ∧ Below w.heap.size w w' := by
  obtain ⟨k, n, s⟩ := x
  go_enter Tryd.func32, Tryd.ntmps32
  go_wp2
  all_goals go_ret
  all_goals refine ⟨?_, (Below.refl _ _).alloc (Nat.le_refl _) _⟩
  all_goals first | (simp_all [Val.right]; done) | (simp_all [Val.right]; omega)

set_option maxHeartbeats 400000 in
theorem rright_any (x : Val) (w : World) :
    Calls Tryd.prog 73 #[x.v] w fun e w' => e = .returned (.bool x.right) ∧ Below w.heap.size w w' := by
  obtain ⟨k, n, s⟩ := x
  go_enter Tryd.func73, Tryd.ntmps73
  go_wp2
  all_goals go_ret
  all_goals refine ⟨?_, (Below.refl _ _).alloc (Nat.le_refl _) _⟩
  all_goals first | (simp_all [Val.right]; done) | (simp_all [Val.right]; omega)

set_option maxHeartbeats 400000 in
theorem isNull_any (x : Val) (w : World) :
    Calls Tryd.prog 102 #[x.v] w fun e w' => e = .returned (.bool (x.k == 0)) ∧ Below w.heap.size w w' := by
  obtain ⟨k, n, s⟩ := x
  go_enter Tryd.func102, Tryd.ntmps102
  go_wp2
  go_ret
  exact ⟨rfl, (Below.refl _ _).alloc (Nat.le_refl _) _⟩

set_option maxHeartbeats 400000 in
theorem number_any (k : Int) (w : World) :
    Calls Tryd.prog 98 #[.int .i64 k] w fun e w' => e = .returned (num k).v ∧ Below w.heap.size w w' := by
  go_enter Tryd.func98, Tryd.ntmps98
  go_wp2
  (refine bodyPost_ret (v := (num k).v) (by simp [results, Tryd.results98, go_sem]) rfl ⟨rfl, ?_⟩)
  (repeat (first | exact ext_refl _ | assumption | (refine ext_alloc ?_ _) | (refine ext_drewN ?_ _) | refine ext_drew ?_ | (refine ext_set (by first | (simp; done) | (simp; omega)) _ ?_) | (refine ext_trans ?_ (by assumption))))

set_option maxHeartbeats 400000 in
theorem truth_any (k : Int) (w : World) :
    Calls Tryd.prog 100 #[.int .i64 k] w fun e w' => e = .returned (tru k).v ∧ Below w.heap.size w w' := by
  go_enter Tryd.func100, Tryd.ntmps100
  go_wp2
  (refine bodyPost_ret (v := (tru k).v) (by simp [results, Tryd.results100, go_sem]) rfl ⟨rfl, ?_⟩)
  (repeat (first | exact ext_refl _ | assumption | (refine ext_alloc ?_ _) | (refine ext_drewN ?_ _) | refine ext_drew ?_ | (refine ext_set (by first | (simp; done) | (simp; omega)) _ ?_) | (refine ext_trans ?_ (by assumption))))

set_option maxHeartbeats 400000 in
theorem one_any (k : Int) (w : World) :
    Calls Tryd.prog 106 #[.int .i64 k] w fun e w' => e = .returned (num k).v ∧ Below w.heap.size w w' := by
  go_enter Tryd.func106, Tryd.ntmps106
  go_wp2
  (refine bodyPost_ret (v := (num k).v) (by simp [results, Tryd.results106, go_sem]) rfl ⟨rfl, ?_⟩)
  (repeat (first | exact ext_refl _ | assumption | (refine ext_alloc ?_ _) | (refine ext_drewN ?_ _) | refine ext_drew ?_ | (refine ext_set (by first | (simp; done) | (simp; omega)) _ ?_) | (refine ext_trans ?_ (by assumption))))

set_option maxHeartbeats 400000 in
theorem rtruth_any (b : Bool) (w : World) :
    Calls Tryd.prog 94 #[.bool b] w fun e w' => e = .returned (tru (bit b)).v ∧ Below w.heap.size w w' := by
  cases b
  all_goals go_enter Tryd.func94, Tryd.ntmps94
  all_goals go_wp2
  · (refine bodyPost_ret (v := (tru 0).v) (by simp [results, Tryd.results94, go_sem]) rfl ⟨rfl, ?_⟩)
    (repeat (first | exact ext_refl _ | assumption | (refine ext_alloc ?_ _) | (refine ext_drewN ?_ _) | refine ext_drew ?_ | (refine ext_set (by first | (simp; done) | (simp; omega)) _ ?_) | (refine ext_trans ?_ (by assumption))))
  · (refine bodyPost_ret (v := (tru 1).v) (by simp [results, Tryd.results94, go_sem]) rfl ⟨rfl, ?_⟩)
    (repeat (first | exact ext_refl _ | assumption | (refine ext_alloc ?_ _) | (refine ext_drewN ?_ _) | refine ext_drew ?_ | (refine ext_set (by first | (simp; done) | (simp; omega)) _ ?_) | (refine ext_trans ?_ (by assumption))))

set_option maxHeartbeats 400000 in
theorem nullOr_any (kd : Int) (x : Val) (w : World) :
    Calls Tryd.prog 101 #[.int .i64 kd, x.v] w fun e w' => e = .returned (.bool (x.nullOr kd)) ∧ Below w.heap.size w w' := by
  obtain ⟨k, n, s⟩ := x
  cases hr : Val.right ⟨k, n, s⟩
  all_goals have Hr := Lib.hid hr
  all_goals clear hr
  all_goals cases hk : k == 0
  all_goals go_enter Tryd.func101, Tryd.ntmps101
  all_goals go_wp2_with (first | (go_at_call 32; go_must (refine (right_any ⟨_, _, _⟩ _).mono ?_; rintro e w1 ⟨rfl, hb⟩; obtain ⟨hc, hz, hf⟩ := kept hb; rw [Hr.out])) | (go_at_call 102; go_must (refine (isNull_any ⟨_, _, _⟩ _).mono ?_; rintro e w1 ⟨rfl, hb⟩; obtain ⟨hc, hz, hf⟩ := kept hb; dsimp only; rw [hk])))
  all_goals go_ret
  all_goals (refine ⟨by simp [Val.nullOr, Hr.out, hk], ?_⟩; (repeat (first | exact ext_refl _ | assumption | (refine ext_alloc ?_ _) | (refine ext_drewN ?_ _) | refine ext_drew ?_ | (refine ext_set (by first | (simp; done) | (simp; omega)) _ ?_) | (refine ext_trans ?_ (by assumption)))))

set_option maxHeartbeats 400000 in
theorem of_any (kd : Int) (x y : Val) (w : World) :
    Calls Tryd.prog 105 #[.int .i64 kd, x.v, y.v] w fun e w' => e = .returned (.bool (x.nullOr kd && y.nullOr kd)) ∧ Below w.heap.size w w' := by
  obtain ⟨k, n, s⟩ := x
  obtain ⟨l, m, t⟩ := y
  cases hr : Val.right ⟨k, n, s⟩
  all_goals have Hr := Lib.hid hr
  all_goals clear hr
  all_goals cases ht : Val.right ⟨l, m, t⟩
  all_goals have Ht := Lib.hid ht
  all_goals clear ht
  all_goals cases hk : k == 0
  all_goals cases hk2 : k == kd
  all_goals cases hl : l == 0
  all_goals go_enter Tryd.func105, Tryd.ntmps105
  all_goals go_wp2_with (first | (go_at_call 73; go_must (refine (rright_any ⟨_, _, _⟩ _).mono ?_; rintro e w1 ⟨rfl, hb⟩; obtain ⟨hc, hz, hf⟩ := kept hb; have hz1 : w.heap.size + 1 < w1.heap.size := hz _ (by first | (simp; done) | (simp; omega) | assumption); have hz0 : w.heap.size < w1.heap.size := hz _ (by first | (simp; done) | (simp; omega) | assumption); first | rw [Hr.out] | rw [Ht.out])))
  all_goals (go_ret; refine ⟨by simp [Val.nullOr, Hr.out, Ht.out, hk, hl, hk2], ?_⟩; (repeat (first | exact ext_refl _ | assumption | (refine ext_alloc ?_ _) | (refine ext_drewN ?_ _) | refine ext_drew ?_ | (refine ext_set (by first | (simp; done) | (simp; omega)) _ ?_) | (refine ext_trans ?_ (by assumption)))))

end Go.Proofs.YthdnbcdcfaocmaaDoor
