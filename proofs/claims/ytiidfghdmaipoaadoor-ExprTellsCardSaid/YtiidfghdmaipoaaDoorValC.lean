/- What Add, Sub, Mul, Div, Neg answer, for every value whose numbers fit. -/
import Derived.Test.YtiidfghdmaipoaaDoorValB
import Derived.Deep.RegionWith
namespace Go.Proofs.YtiidfghdmaipoaaDoor
open Go.RowKit

set_option maxHeartbeats 400000 in
theorem add_any (x y : Val) (w : World) (hx : inR x.n = true) (hy : inR y.n = true) :
    Calls Tryd.prog 59 #[x.v, y.v] w fun e w' => e = .returned (.tuple #[(arith 4 x y).1.v, .int .i64 (arith 4 x y).2]) ∧ Below w.heap.size w w' := by
  obtain ⟨k, n, s⟩ := x
  obtain ⟨l, m, t⟩ := y
  go_enter Tryd.func59, Tryd.ntmps59
  go_wp2_with (first | (go_at_call 71; go_must (refine (arithmetic_any 4 ⟨k, n, s⟩ ⟨l, m, t⟩ _ (by decide) hx hy).mono ?_; rintro e w1 ⟨rfl, hb⟩; obtain ⟨hc, hz, hf⟩ := kept hb; have hz2 : w.heap.size + 1 + 1 < w1.heap.size := hz _ (by first | (simp; done) | (simp; omega) | assumption); have hz1 : w.heap.size + 1 < w1.heap.size := hz _ (by first | (simp; done) | (simp; omega) | assumption); have hz0 : w.heap.size < w1.heap.size := hz _ (by first | (simp; done) | (simp; omega) | assumption))))
  (refine bodyPost_ret (v := .tuple #[(arith 4 ⟨k, n, s⟩ ⟨l, m, t⟩).1.v, .int .i64 (arith 4 ⟨k, n, s⟩ ⟨l, m, t⟩).2]) (by simp [results, Tryd.results59, go_sem, *]) rfl ⟨by (rfl), ?_⟩; (repeat (first | exact ext_refl _ | assumption | (refine ext_alloc ?_ _) | (refine ext_drewN ?_ _) | refine ext_drew ?_ | (refine ext_set (by first | (simp; done) | (simp; omega)) _ ?_) | (refine ext_trans ?_ (by assumption)))))

set_option maxHeartbeats 400000 in
theorem sub_any (x y : Val) (w : World) (hx : inR x.n = true) (hy : inR y.n = true) :
    Calls Tryd.prog 60 #[x.v, y.v] w fun e w' => e = .returned (.tuple #[(arith 5 x y).1.v, .int .i64 (arith 5 x y).2]) ∧ Below w.heap.size w w' := by
  obtain ⟨k, n, s⟩ := x
  obtain ⟨l, m, t⟩ := y
  go_enter Tryd.func60, Tryd.ntmps60
  go_wp2_with (first | (go_at_call 71; go_must (refine (arithmetic_any 5 ⟨k, n, s⟩ ⟨l, m, t⟩ _ (by decide) hx hy).mono ?_; rintro e w1 ⟨rfl, hb⟩; obtain ⟨hc, hz, hf⟩ := kept hb; have hz2 : w.heap.size + 1 + 1 < w1.heap.size := hz _ (by first | (simp; done) | (simp; omega) | assumption); have hz1 : w.heap.size + 1 < w1.heap.size := hz _ (by first | (simp; done) | (simp; omega) | assumption); have hz0 : w.heap.size < w1.heap.size := hz _ (by first | (simp; done) | (simp; omega) | assumption))))
  (refine bodyPost_ret (v := .tuple #[(arith 5 ⟨k, n, s⟩ ⟨l, m, t⟩).1.v, .int .i64 (arith 5 ⟨k, n, s⟩ ⟨l, m, t⟩).2]) (by simp [results, Tryd.results60, go_sem, *]) rfl ⟨by (rfl), ?_⟩; (repeat (first | exact ext_refl _ | assumption | (refine ext_alloc ?_ _) | (refine ext_drewN ?_ _) | refine ext_drew ?_ | (refine ext_set (by first | (simp; done) | (simp; omega)) _ ?_) | (refine ext_trans ?_ (by assumption)))))

set_option maxHeartbeats 400000 in
theorem mul_any (x y : Val) (w : World) (hx : inR x.n = true) (hy : inR y.n = true) :
    Calls Tryd.prog 61 #[x.v, y.v] w fun e w' => e = .returned (.tuple #[(arith 6 x y).1.v, .int .i64 (arith 6 x y).2]) ∧ Below w.heap.size w w' := by
  obtain ⟨k, n, s⟩ := x
  obtain ⟨l, m, t⟩ := y
  go_enter Tryd.func61, Tryd.ntmps61
  go_wp2_with (first | (go_at_call 71; go_must (refine (arithmetic_any 6 ⟨k, n, s⟩ ⟨l, m, t⟩ _ (by decide) hx hy).mono ?_; rintro e w1 ⟨rfl, hb⟩; obtain ⟨hc, hz, hf⟩ := kept hb; have hz2 : w.heap.size + 1 + 1 < w1.heap.size := hz _ (by first | (simp; done) | (simp; omega) | assumption); have hz1 : w.heap.size + 1 < w1.heap.size := hz _ (by first | (simp; done) | (simp; omega) | assumption); have hz0 : w.heap.size < w1.heap.size := hz _ (by first | (simp; done) | (simp; omega) | assumption))))
  (refine bodyPost_ret (v := .tuple #[(arith 6 ⟨k, n, s⟩ ⟨l, m, t⟩).1.v, .int .i64 (arith 6 ⟨k, n, s⟩ ⟨l, m, t⟩).2]) (by simp [results, Tryd.results61, go_sem, *]) rfl ⟨by (rfl), ?_⟩; (repeat (first | exact ext_refl _ | assumption | (refine ext_alloc ?_ _) | (refine ext_drewN ?_ _) | refine ext_drew ?_ | (refine ext_set (by first | (simp; done) | (simp; omega)) _ ?_) | (refine ext_trans ?_ (by assumption)))))

set_option maxHeartbeats 400000 in
theorem div_any (x y : Val) (w : World) (hx : inR x.n = true) (hy : inR y.n = true) :
    Calls Tryd.prog 62 #[x.v, y.v] w fun e w' => e = .returned (.tuple #[(arith 7 x y).1.v, .int .i64 (arith 7 x y).2]) ∧ Below w.heap.size w w' := by
  obtain ⟨k, n, s⟩ := x
  obtain ⟨l, m, t⟩ := y
  go_enter Tryd.func62, Tryd.ntmps62
  go_wp2_with (first | (go_at_call 71; go_must (refine (arithmetic_any 7 ⟨k, n, s⟩ ⟨l, m, t⟩ _ (by decide) hx hy).mono ?_; rintro e w1 ⟨rfl, hb⟩; obtain ⟨hc, hz, hf⟩ := kept hb; have hz2 : w.heap.size + 1 + 1 < w1.heap.size := hz _ (by first | (simp; done) | (simp; omega) | assumption); have hz1 : w.heap.size + 1 < w1.heap.size := hz _ (by first | (simp; done) | (simp; omega) | assumption); have hz0 : w.heap.size < w1.heap.size := hz _ (by first | (simp; done) | (simp; omega) | assumption))))
  (refine bodyPost_ret (v := .tuple #[(arith 7 ⟨k, n, s⟩ ⟨l, m, t⟩).1.v, .int .i64 (arith 7 ⟨k, n, s⟩ ⟨l, m, t⟩).2]) (by simp [results, Tryd.results62, go_sem, *]) rfl ⟨by (rfl), ?_⟩; (repeat (first | exact ext_refl _ | assumption | (refine ext_alloc ?_ _) | (refine ext_drewN ?_ _) | refine ext_drew ?_ | (refine ext_set (by first | (simp; done) | (simp; omega)) _ ?_) | (refine ext_trans ?_ (by assumption)))))

set_option maxHeartbeats 400000 in
theorem neg_any (x : Val) (w : World) (hx : inR x.n = true) :
    Calls Tryd.prog 63 #[x.v] w fun e w' => e = .returned (.tuple #[(arith 5 (num 0) x).1.v, .int .i64 (arith 5 (num 0) x).2]) ∧ Below w.heap.size w w' := by
  obtain ⟨k, n, s⟩ := x
  go_enter Tryd.func63, Tryd.ntmps63
  go_wp2
  go_region_with (first | (go_at_call 72; go_must (refine (number_any _ _).mono ?_; rintro e w1 ⟨rfl, hb⟩; obtain ⟨hc, hz, hf⟩ := kept hb; have hz1 : w.heap.size + 1 < w1.heap.size := hz _ (by first | (simp; done) | (simp; omega) | assumption); have hz0 : w.heap.size < w1.heap.size := hz _ (by first | (simp; done) | (simp; omega) | assumption))) | (go_at_call 71; go_must (refine (arithmetic_any 5 (num 0) ⟨k, n, s⟩ _ (by decide) (by decide) hx).mono ?_; rintro e w1 ⟨rfl, hb⟩; obtain ⟨hc, hz, hf⟩ := kept hb; have hz1 : w.heap.size + 1 < w1.heap.size := hz _ (by first | (simp; done) | (simp; omega) | assumption); have hz0 : w.heap.size < w1.heap.size := hz _ (by first | (simp; done) | (simp; omega) | assumption))))
  all_goals go_wp2
  all_goals (refine bodyPost_ret (v := .tuple #[(arith 5 (num 0) ⟨k, n, s⟩).1.v, .int .i64 (arith 5 (num 0) ⟨k, n, s⟩).2]) (by simp [results, Tryd.results63, go_sem, *]) rfl ⟨by (rfl), ?_⟩; (repeat (first | exact ext_refl _ | assumption | (refine ext_alloc ?_ _) | (refine ext_drewN ?_ _) | refine ext_drew ?_ | (refine ext_set (by first | (simp; done) | (simp; omega)) _ ?_) | (refine ext_trans ?_ (by assumption)))))

end Go.Proofs.YtiidfghdmaipoaaDoor
