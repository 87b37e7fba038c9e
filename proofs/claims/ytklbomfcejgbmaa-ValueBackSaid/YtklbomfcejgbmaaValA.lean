/- What the smallest functions of package value, and of its law package, answer: one sentence each, for every value. -/
import Derived.Test.YtklbomfcejgbmaaVal
namespace Go.Proofs.Ytklbomfcejgbmaa
open Go.RowKit

set_option maxHeartbeats 400000 in
theorem right_any (x : Val) (w : World) :
    Calls Try.prog 29 #[x.v] w fun e w' => e = .returned (.bool x.right) ∧ Below w.heap.size w w' := by
  obtain ⟨k, n, s⟩ := x
  go_enter Try.func29, Try.ntmps29
  go_wp2
  all_goals go_ret
  all_goals refine ⟨?_, (Below.refl _ _).alloc (Nat.le_refl _) _⟩
  all_goals first | (simp_all [Val.right]; done) | (simp_all [Val.right]; omega)

set_option maxHeartbeats 400000 in
theorem rright_any (x : Val) (w : World) :
    Calls Try.prog 30 #[x.v] w fun e w' => e = .returned (.bool x.right) ∧ Below w.heap.size w w' := by
  obtain ⟨k, n, s⟩ := x
  go_enter Try.func30, Try.ntmps30
  go_wp2
  all_goals go_ret
  all_goals refine ⟨?_, (Below.refl _ _).alloc (Nat.le_refl _) _⟩
  all_goals first | (simp_all [Val.right]; done) | (simp_all [Val.right]; omega)

set_option maxHeartbeats 400000 in
theorem n_any (k : Int) (w : World) :
    Calls Try.prog 33 #[.int .i64 k] w fun e w' => e = .returned (num k).v ∧ Below w.heap.size w w' := by
  go_enter Try.func33, Try.ntmps33
  go_wp2
  (refine bodyPost_ret (v := (num k).v) (by simp [results, Try.results33, go_sem]) rfl ⟨rfl, ?_⟩)
  (repeat (first | exact ext_refl _ | assumption | (refine ext_alloc ?_ _) | (refine ext_drewN ?_ _) | refine ext_drew ?_ | (refine ext_set (by first | (simp; done) | (simp; omega)) _ ?_) | (refine ext_trans ?_ (by assumption))))

set_option maxHeartbeats 400000 in
theorem t_any (k : Int) (w : World) :
    Calls Try.prog 34 #[.int .i64 k] w fun e w' => e = .returned (tru k).v ∧ Below w.heap.size w w' := by
  go_enter Try.func34, Try.ntmps34
  go_wp2
  (refine bodyPost_ret (v := (tru k).v) (by simp [results, Try.results34, go_sem]) rfl ⟨rfl, ?_⟩)
  (repeat (first | exact ext_refl _ | assumption | (refine ext_alloc ?_ _) | (refine ext_drewN ?_ _) | refine ext_drew ?_ | (refine ext_set (by first | (simp; done) | (simp; omega)) _ ?_) | (refine ext_trans ?_ (by assumption))))

set_option maxHeartbeats 400000 in
theorem isNull_any (x : Val) (w : World) :
    Calls Try.prog 40 #[x.v] w fun e w' => e = .returned (.bool (x.k == 0)) ∧ Below w.heap.size w w' := by
  obtain ⟨k, n, s⟩ := x
  go_enter Try.func40, Try.ntmps40
  go_wp2
  go_ret
  exact ⟨rfl, (Below.refl _ _).alloc (Nat.le_refl _) _⟩

set_option maxHeartbeats 400000 in
theorem number_any (k : Int) (w : World) :
    Calls Try.prog 39 #[.int .i64 k] w fun e w' => e = .returned (num k).v ∧ Below w.heap.size w w' := by
  go_enter Try.func39, Try.ntmps39
  go_wp2
  (refine bodyPost_ret (v := (num k).v) (by simp [results, Try.results39, go_sem]) rfl ⟨rfl, ?_⟩)
  (repeat (first | exact ext_refl _ | assumption | (refine ext_alloc ?_ _) | (refine ext_drewN ?_ _) | refine ext_drew ?_ | (refine ext_set (by first | (simp; done) | (simp; omega)) _ ?_) | (refine ext_trans ?_ (by assumption))))

set_option maxHeartbeats 400000 in
theorem truth_any (k : Int) (w : World) :
    Calls Try.prog 42 #[.int .i64 k] w fun e w' => e = .returned (tru k).v ∧ Below w.heap.size w w' := by
  go_enter Try.func42, Try.ntmps42
  go_wp2
  (refine bodyPost_ret (v := (tru k).v) (by simp [results, Try.results42, go_sem]) rfl ⟨rfl, ?_⟩)
  (repeat (first | exact ext_refl _ | assumption | (refine ext_alloc ?_ _) | (refine ext_drewN ?_ _) | refine ext_drew ?_ | (refine ext_set (by first | (simp; done) | (simp; omega)) _ ?_) | (refine ext_trans ?_ (by assumption))))

set_option maxHeartbeats 400000 in
theorem one_any (k : Int) (w : World) :
    Calls Try.prog 38 #[.int .i64 k] w fun e w' => e = .returned (num k).v ∧ Below w.heap.size w w' := by
  go_enter Try.func38, Try.ntmps38
  go_wp2
  (refine bodyPost_ret (v := (num k).v) (by simp [results, Try.results38, go_sem]) rfl ⟨rfl, ?_⟩)
  (repeat (first | exact ext_refl _ | assumption | (refine ext_alloc ?_ _) | (refine ext_drewN ?_ _) | refine ext_drew ?_ | (refine ext_set (by first | (simp; done) | (simp; omega)) _ ?_) | (refine ext_trans ?_ (by assumption))))

set_option maxHeartbeats 400000 in
theorem rtruth_any (b : Bool) (w : World) :
    Calls Try.prog 43 #[.bool b] w fun e w' => e = .returned (tru (bit b)).v ∧ Below w.heap.size w w' := by
  cases b
  all_goals go_enter Try.func43, Try.ntmps43
  all_goals go_wp2
  · (refine bodyPost_ret (v := (tru 0).v) (by simp [results, Try.results43, go_sem]) rfl ⟨rfl, ?_⟩)
    (repeat (first | exact ext_refl _ | assumption | (refine ext_alloc ?_ _) | (refine ext_drewN ?_ _) | refine ext_drew ?_ | (refine ext_set (by first | (simp; done) | (simp; omega)) _ ?_) | (refine ext_trans ?_ (by assumption))))
  · (refine bodyPost_ret (v := (tru 1).v) (by simp [results, Try.results43, go_sem]) rfl ⟨rfl, ?_⟩)
    (repeat (first | exact ext_refl _ | assumption | (refine ext_alloc ?_ _) | (refine ext_drewN ?_ _) | refine ext_drew ?_ | (refine ext_set (by first | (simp; done) | (simp; omega)) _ ?_) | (refine ext_trans ?_ (by assumption))))

set_option maxHeartbeats 400000 in
theorem nullOr_any (kd : Int) (x : Val) (w : World) :
    Calls Try.prog 45 #[.int .i64 kd, x.v] w fun e w' => e = .returned (.bool (x.nullOr kd)) ∧ Below w.heap.size w w' := by
  obtain ⟨k, n, s⟩ := x
  cases hr : Val.right ⟨k, n, s⟩
  all_goals have Hr := Lib.hid hr
  all_goals clear hr
  all_goals cases hk : k == 0
  all_goals go_enter Try.func45, Try.ntmps45
  all_goals go_wp2_with (first | (go_at_call 29; go_must (refine (right_any ⟨_, _, _⟩ _).mono ?_; rintro e w1 ⟨rfl, hb⟩; obtain ⟨hc, hz, hf⟩ := kept hb; rw [Hr.out])) | (go_at_call 40; go_must (refine (isNull_any ⟨_, _, _⟩ _).mono ?_; rintro e w1 ⟨rfl, hb⟩; obtain ⟨hc, hz, hf⟩ := kept hb; dsimp only; rw [hk])))
  all_goals go_ret
  all_goals (refine ⟨by simp [Val.nullOr, Hr.out, hk], ?_⟩; (repeat (first | exact ext_refl _ | assumption | (refine ext_alloc ?_ _) | (refine ext_drewN ?_ _) | refine ext_drew ?_ | (refine ext_set (by first | (simp; done) | (simp; omega)) _ ?_) | (refine ext_trans ?_ (by assumption)))))

set_option maxHeartbeats 400000 in
theorem of_any (kd : Int) (x y : Val) (w : World) :
    Calls Try.prog 37 #[.int .i64 kd, x.v, y.v] w fun e w' => e = .returned (.bool (x.nullOr kd && y.nullOr kd)) ∧ Below w.heap.size w w' := by
  obtain ⟨k, n, s⟩ := x
  obtain ⟨l, m, t⟩ := y
  cases hr : Val.right ⟨k, n, s⟩
  all_goals have Hr := Lib.hid hr
  all_goals clear hr
  all_goals cases ht : Val.right ⟨l, m, t⟩
  all_goals have Ht := Lib.hid ht
  all_goals clear ht
  all_goals cases hk : k == 0
  all_goals cases hk2 : k == kd
  all_goals cases hl : l == 0
  all_goals go_enter Try.func37, Try.ntmps37
  all_goals go_wp2_with (first | (go_at_call 30; go_must (refine (rright_any ⟨_, _, _⟩ _).mono ?_; rintro e w1 ⟨rfl, hb⟩; obtain ⟨hc, hz, hf⟩ := kept hb; have hz1 : w.heap.size + 1 < w1.heap.size := hz _ (by first | (simp; done) | (simp; omega) | assumption); have hz0 : w.heap.size < w1.heap.size := hz _ (by first | (simp; done) | (simp; omega) | assumption); first | rw [Hr.out] | rw [Ht.out])))
  all_goals (go_ret; refine ⟨by simp [Val.nullOr, Hr.out, Ht.out, hk, hl, hk2], ?_⟩; (repeat (first | exact ext_refl _ | assumption | (refine ext_alloc ?_ _) | (refine ext_drewN ?_ _) | refine ext_drew ?_ | (refine ext_set (by first | (simp; done) | (simp; omega)) _ ?_) | (refine ext_trans ?_ (by assumption)))))

end Go.Proofs.Ytklbomfcejgbmaa
