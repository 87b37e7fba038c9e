/- A part of the proof. -/
import Derived.Test.YtklgoajgchfmeaaGreatDoorKs
import Derived.Deep.RegionWith
set_option linter.unusedVariables false
set_option linter.unusedSimpArgs false
namespace Go.Proofs.YtklgoajgchfmeaaGreatDoor
open Go.RowKit
set_option maxHeartbeats 400000 in
theorem add_any (x y : Val) (w : World) (hx : inR x.n = true) (hy : inR y.n = true) :
    Calls Tryz.prog 30 #[x.v, y.v] w fun e w' => e = .returned (.tuple #[(arith 4 x y).1.v, .int .i64 (arith 4 x y).2]) ∧ Below w.heap.size w w' := by
  obtain ⟨k, n, s⟩ := x
  obtain ⟨l, m, t⟩ := y
  go_enter Tryz.func30, Tryz.ntmps30
  go_wp2_with (first | (go_at_call 51; go_must (refine (arithmetic_any 4 ⟨k, n, s⟩ ⟨l, m, t⟩ _ (by decide) hx hy).mono ?_; rintro e w1 ⟨rfl, hb⟩; obtain ⟨hc, hz, hf⟩ := kept hb; have hz2 : w.heap.size + 1 + 1 < w1.heap.size := hz _ (by first | (simp; done) | (simp; omega) | assumption); have hz1 : w.heap.size + 1 < w1.heap.size := hz _ (by first | (simp; done) | (simp; omega) | assumption); have hz0 : w.heap.size < w1.heap.size := hz _ (by first | (simp; done) | (simp; omega) | assumption))))
  (refine bodyPost_ret (v := .tuple #[(arith 4 ⟨k, n, s⟩ ⟨l, m, t⟩).1.v, .int .i64 (arith 4 ⟨k, n, s⟩ ⟨l, m, t⟩).2]) (by simp [results, Tryz.results30, go_sem, *]) rfl ⟨by (rfl), ?_⟩; (repeat (first | exact ext_refl _ | assumption | (refine ext_alloc ?_ _) | (refine ext_drewN ?_ _) | refine ext_drew ?_ | (refine ext_set (by first | (simp; done) | (simp; omega)) _ ?_) | (refine ext_trans ?_ (by assumption)))))
set_option maxHeartbeats 400000 in
theorem sub_any (x y : Val) (w : World) (hx : inR x.n = true) (hy : inR y.n = true) :
    Calls Tryz.prog 31 #[x.v, y.v] w fun e w' => e = .returned (.tuple #[(arith 5 x y).1.v, .int .i64 (arith 5 x y).2]) ∧ Below w.heap.size w w' := by
  obtain ⟨k, n, s⟩ := x
  obtain ⟨l, m, t⟩ := y
  go_enter Tryz.func31, Tryz.ntmps31
  go_wp2_with (first | (go_at_call 51; go_must (refine (arithmetic_any 5 ⟨k, n, s⟩ ⟨l, m, t⟩ _ (by decide) hx hy).mono ?_; rintro e w1 ⟨rfl, hb⟩; obtain ⟨hc, hz, hf⟩ := kept hb; have hz2 : w.heap.size + 1 + 1 < w1.heap.size := hz _ (by first | (simp; done) | (simp; omega) | assumption); have hz1 : w.heap.size + 1 < w1.heap.size := hz _ (by first | (simp; done) | (simp; omega) | assumption); have hz0 : w.heap.size < w1.heap.size := hz _ (by first | (simp; done) | (simp; omega) | assumption))))
  (refine bodyPost_ret (v := .tuple #[(arith 5 ⟨k, n, s⟩ ⟨l, m, t⟩).1.v, .int .i64 (arith 5 ⟨k, n, s⟩ ⟨l, m, t⟩).2]) (by simp [results, Tryz.results31, go_sem, *]) rfl ⟨by (rfl), ?_⟩; (repeat (first | exact ext_refl _ | assumption | (refine ext_alloc ?_ _) | (refine ext_drewN ?_ _) | refine ext_drew ?_ | (refine ext_set (by first | (simp; done) | (simp; omega)) _ ?_) | (refine ext_trans ?_ (by assumption)))))
set_option maxHeartbeats 400000 in
theorem mul_any (x y : Val) (w : World) (hx : inR x.n = true) (hy : inR y.n = true) :
    Calls Tryz.prog 32 #[x.v, y.v] w fun e w' => e = .returned (.tuple #[(arith 6 x y).1.v, .int .i64 (arith 6 x y).2]) ∧ Below w.heap.size w w' := by
  obtain ⟨k, n, s⟩ := x
  obtain ⟨l, m, t⟩ := y
  go_enter Tryz.func32, Tryz.ntmps32
  go_wp2_with (first | (go_at_call 51; go_must (refine (arithmetic_any 6 ⟨k, n, s⟩ ⟨l, m, t⟩ _ (by decide) hx hy).mono ?_; rintro e w1 ⟨rfl, hb⟩; obtain ⟨hc, hz, hf⟩ := kept hb; have hz2 : w.heap.size + 1 + 1 < w1.heap.size := hz _ (by first | (simp; done) | (simp; omega) | assumption); have hz1 : w.heap.size + 1 < w1.heap.size := hz _ (by first | (simp; done) | (simp; omega) | assumption); have hz0 : w.heap.size < w1.heap.size := hz _ (by first | (simp; done) | (simp; omega) | assumption))))
  (refine bodyPost_ret (v := .tuple #[(arith 6 ⟨k, n, s⟩ ⟨l, m, t⟩).1.v, .int .i64 (arith 6 ⟨k, n, s⟩ ⟨l, m, t⟩).2]) (by simp [results, Tryz.results32, go_sem, *]) rfl ⟨by (rfl), ?_⟩; (repeat (first | exact ext_refl _ | assumption | (refine ext_alloc ?_ _) | (refine ext_drewN ?_ _) | refine ext_drew ?_ | (refine ext_set (by first | (simp; done) | (simp; omega)) _ ?_) | (refine ext_trans ?_ (by assumption)))))
set_option maxHeartbeats 400000 in
theorem div_any (x y : Val) (w : World) (hx : inR x.n = true) (hy : inR y.n = true) :
    Calls Tryz.prog 33 #[x.v, y.v] w fun e w' => e = .returned (.tuple #[(arith 7 x y).1.v, .int .i64 (arith 7 x y).2]) ∧ Below w.heap.size w w' := by
  obtain ⟨k, n, s⟩ := x
  obtain ⟨l, m, t⟩ := y
  go_enter Tryz.func33, Tryz.ntmps33
  go_wp2_with (first | (go_at_call 51; go_must (refine (arithmetic_any 7 ⟨k, n, s⟩ ⟨l, m, t⟩ _ (by decide) hx hy).mono ?_; rintro e w1 ⟨rfl, hb⟩; obtain ⟨hc, hz, hf⟩ := kept hb; have hz2 : w.heap.size + 1 + 1 < w1.heap.size := hz _ (by first | (simp; done) | (simp; omega) | assumption); have hz1 : w.heap.size + 1 < w1.heap.size := hz _ (by first | (simp; done) | (simp; omega) | assumption); have hz0 : w.heap.size < w1.heap.size := hz _ (by first | (simp; done) | (simp; omega) | assumption))))
  (refine bodyPost_ret (v := .tuple #[(arith 7 ⟨k, n, s⟩ ⟨l, m, t⟩).1.v, .int .i64 (arith 7 ⟨k, n, s⟩ ⟨l, m, t⟩).2]) (by simp [results, Tryz.results33, go_sem, *]) rfl ⟨by (rfl), ?_⟩; (repeat (first | exact ext_refl _ | assumption | (refine ext_alloc ?_ _) | (refine ext_drewN ?_ _) | refine ext_drew ?_ | (refine ext_set (by first | (simp; done) | (simp; omega)) _ ?_) | (refine ext_trans ?_ (by assumption)))))
set_option maxHeartbeats 400000 in
theorem neg_any (x : Val) (w : World) (hx : inR x.n = true) :
    Calls Tryz.prog 34 #[x.v] w fun e w' => e = .returned (.tuple #[(arith 5 (num 0) x).1.v, .int .i64 (arith 5 (num 0) x).2]) ∧ Below w.heap.size w w' := by
  obtain ⟨k, n, s⟩ := x
  go_enter Tryz.func34, Tryz.ntmps34
  go_wp2
  go_region_with (first | (go_at_call 52; go_must (refine (number_any _ _).mono ?_; rintro e w1 ⟨rfl, hb⟩; obtain ⟨hc, hz, hf⟩ := kept hb; have hz1 : w.heap.size + 1 < w1.heap.size := hz _ (by first | (simp; done) | (simp; omega) | assumption); have hz0 : w.heap.size < w1.heap.size := hz _ (by first | (simp; done) | (simp; omega) | assumption))) | (go_at_call 51; go_must (refine (arithmetic_any 5 (num 0) ⟨k, n, s⟩ _ (by decide) (by decide) hx).mono ?_; rintro e w1 ⟨rfl, hb⟩; obtain ⟨hc, hz, hf⟩ := kept hb; have hz1 : w.heap.size + 1 < w1.heap.size := hz _ (by first | (simp; done) | (simp; omega) | assumption); have hz0 : w.heap.size < w1.heap.size := hz _ (by first | (simp; done) | (simp; omega) | assumption))))
  all_goals go_wp2
  all_goals (refine bodyPost_ret (v := .tuple #[(arith 5 (num 0) ⟨k, n, s⟩).1.v, .int .i64 (arith 5 (num 0) ⟨k, n, s⟩).2]) (by simp [results, Tryz.results34, go_sem, *]) rfl ⟨by (rfl), ?_⟩; (repeat (first | exact ext_refl _ | assumption | (refine ext_alloc ?_ _) | (refine ext_drewN ?_ _) | refine ext_drew ?_ | (refine ext_set (by first | (simp; done) | (simp; omega)) _ ?_) | (refine ext_trans ?_ (by assumption)))))
end Go.Proofs.YtklgoajgchfmeaaGreatDoor
