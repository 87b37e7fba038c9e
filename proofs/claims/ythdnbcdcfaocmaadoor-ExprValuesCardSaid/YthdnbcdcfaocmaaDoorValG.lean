/- What the document's own answers to AND, OR, NOT are. -/
import Derived.Test.YthdnbcdcfaocmaaDoorValF
namespace Go.Proofs.YthdnbcdcfaocmaaDoor
open Go.RowKit
set_option maxRecDepth 100000

theorem rtruth0_any (w : World) : Calls Tryd.prog 94 #[.bool false] w fun e w' => e = .returned (tru 0).v ∧ Below w.heap.size w w' := rtruth_any false w
theorem rtruth1_any (w : World) : Calls Tryd.prog 94 #[.bool true] w fun e w' => e = .returned (tru 1).v ∧ Below w.heap.size w w' := rtruth_any true w

set_option maxHeartbeats 400000 in
theorem rand_no (x y : Val) (w : World) (h : (x.nullOr 2 && y.nullOr 2) = false) :
    Calls Tryd.prog 91 #[x.v, y.v] w fun e w' => e = .returned (.tuple #[nul.v, .int .i64 1]) ∧ Below w.heap.size w w' := by
  obtain ⟨k, n, s⟩ := x
  obtain ⟨l, m, t⟩ := y
  have H1 := Lib.hid h
  clear h
  go_enter Tryd.func91, Tryd.ntmps91
  go_wp2_with (first | (go_at_call 105; go_must (refine (of_any 2 ⟨_, _, _⟩ ⟨_, _, _⟩ _).mono ?_; rintro e w1 ⟨rfl, hb⟩; obtain ⟨hc, hz, hf⟩ := kept hb; have hz2 : w.heap.size + 1 + 1 < w1.heap.size := hz _ (by first | (simp; done) | (simp; omega) | assumption); have hz1 : w.heap.size + 1 < w1.heap.size := hz _ (by first | (simp; done) | (simp; omega) | assumption); have hz0 : w.heap.size < w1.heap.size := hz _ (by first | (simp; done) | (simp; omega) | assumption); rw [H1.out])))
  (refine bodyPost_ret (v := .tuple #[nul.v, .int .i64 1]) (by simp [results, Tryd.results91, go_sem, *]) rfl ⟨by (rfl), ?_⟩; (repeat (first | exact ext_refl _ | assumption | (refine ext_alloc ?_ _) | (refine ext_drewN ?_ _) | refine ext_drew ?_ | (refine ext_set (by first | (simp; done) | (simp; omega)) _ ?_) | (refine ext_trans ?_ (by assumption)))))

set_option maxHeartbeats 400000 in
theorem rand_nul_nul (w : World) : Calls Tryd.prog 91 #[nul.v, nul.v] w fun e w' => e = .returned (.tuple #[(conn 0 1 nul nul).1.v, .int .i64 (conn 0 1 nul nul).2]) ∧ Below w.heap.size w w' := by
  rw [show conn 0 1 nul nul = (nul, 0) by simp [conn, Val.nullOr, Val.right]]
  have H1 : Hid ((Val.nullOr 2 nul && Val.nullOr 2 nul) = true) := Lib.hid (by simp [Val.nullOr, Val.right])
  go_enter Tryd.func91, Tryd.ntmps91
  go_wp2_with (first | (go_at_call 105; go_must (refine (of_any 2 nul nul _).mono ?_; rintro e w1 ⟨rfl, hb⟩; obtain ⟨hc, hz, hf⟩ := kept hb; have hz2 : w.heap.size + 1 + 1 < w1.heap.size := hz _ (by first | (simp; done) | (simp; omega) | assumption); have hz1 : w.heap.size + 1 < w1.heap.size := hz _ (by first | (simp; done) | (simp; omega) | assumption); have hz0 : w.heap.size < w1.heap.size := hz _ (by first | (simp; done) | (simp; omega) | assumption); rw [H1.out])))
  go_region_held3 (fun w' => w'.cell? ⟨w.heap.size, 0, none⟩ = some (.int .i64 0) ∧ w'.cell? ⟨w.heap.size, 1, none⟩ = some (.int .i64 0) ∧ w'.cell? ⟨w.heap.size, 2, none⟩ = some (.string ⟨#[]⟩) ∧ w'.cell? ⟨w.heap.size + 1, 0, none⟩ = some (.int .i64 0) ∧ w'.cell? ⟨w.heap.size + 1, 1, none⟩ = some (.int .i64 0) ∧ w'.cell? ⟨w.heap.size + 1, 2, none⟩ = some (.string ⟨#[]⟩))
    (go_keep) (first | (go_at_call 94; go_must (refine (rtruth0_any _).mono ?_; rintro e w1 ⟨rfl, hb⟩; obtain ⟨hc, hz, hf⟩ := kept hb; (try simp only [World.size_drew, World.cell?_drew, World.frozen?_drew] at hc hz hf); have hz2 : w.heap.size + 1 + 1 < w1.heap.size := hz _ (by first | (simp; done) | (simp; omega) | assumption); have hz1 : w.heap.size + 1 < w1.heap.size := hz _ (by first | (simp; done) | (simp; omega) | assumption); have hz0 : w.heap.size < w1.heap.size := hz _ (by first | (simp; done) | (simp; omega) | assumption))))
  go_wp2_with (first | (go_at_call 94; (first | refine (rtruth0_any _).mono ?_ | refine (rtruth1_any _).mono ?_); rintro e w1 ⟨rfl, hb⟩; obtain ⟨hc, hz, hf⟩ := kept hb; (try simp only [World.size_drew, World.cell?_drew, World.frozen?_drew] at hc hz hf); have hz1 : w.heap.size + 1 < w1.heap.size := hz _ (by first | (simp; done) | (simp; omega) | assumption); have hz2 : w.heap.size + 1 + 1 < w1.heap.size := hz _ (by first | (simp; done) | (simp; omega) | assumption)))
  (refine bodyPost_ret (v := .tuple #[nul.v, .int .i64 0]) (by simp [results, Tryd.results91, go_sem, *]) rfl ⟨by (rfl), ?_⟩; (repeat (first | exact ext_refl _ | assumption | (refine ext_alloc ?_ _) | (refine ext_drewN ?_ _) | refine ext_drew ?_ | (refine ext_set (by first | (simp; done) | (simp; omega)) _ ?_) | (refine ext_trans ?_ (by assumption)))))

set_option maxHeartbeats 400000 in
theorem rand_nul_tru0 (w : World) : Calls Tryd.prog 91 #[nul.v, (tru 0).v] w fun e w' => e = .returned (.tuple #[(conn 0 1 nul (tru 0)).1.v, .int .i64 (conn 0 1 nul (tru 0)).2]) ∧ Below w.heap.size w w' := by
  rw [show conn 0 1 nul (tru 0) = ((tru 0), 0) by simp [conn, Val.nullOr, Val.right]]
  have H1 : Hid ((Val.nullOr 2 nul && Val.nullOr 2 (tru 0)) = true) := Lib.hid (by simp [Val.nullOr, Val.right])
  go_enter Tryd.func91, Tryd.ntmps91
  go_wp2_with (first | (go_at_call 105; go_must (refine (of_any 2 nul (tru 0) _).mono ?_; rintro e w1 ⟨rfl, hb⟩; obtain ⟨hc, hz, hf⟩ := kept hb; have hz2 : w.heap.size + 1 + 1 < w1.heap.size := hz _ (by first | (simp; done) | (simp; omega) | assumption); have hz1 : w.heap.size + 1 < w1.heap.size := hz _ (by first | (simp; done) | (simp; omega) | assumption); have hz0 : w.heap.size < w1.heap.size := hz _ (by first | (simp; done) | (simp; omega) | assumption); rw [H1.out])))
  go_region_held3 (fun w' => w'.cell? ⟨w.heap.size, 0, none⟩ = some (.int .i64 0) ∧ w'.cell? ⟨w.heap.size, 1, none⟩ = some (.int .i64 0) ∧ w'.cell? ⟨w.heap.size, 2, none⟩ = some (.string ⟨#[]⟩) ∧ w'.cell? ⟨w.heap.size + 1, 0, none⟩ = some (.int .i64 2) ∧ w'.cell? ⟨w.heap.size + 1, 1, none⟩ = some (.int .i64 0) ∧ w'.cell? ⟨w.heap.size + 1, 2, none⟩ = some (.string ⟨#[]⟩))
    (go_keep) (first | (go_at_call 94; go_must (refine (rtruth0_any _).mono ?_; rintro e w1 ⟨rfl, hb⟩; obtain ⟨hc, hz, hf⟩ := kept hb; (try simp only [World.size_drew, World.cell?_drew, World.frozen?_drew] at hc hz hf); have hz2 : w.heap.size + 1 + 1 < w1.heap.size := hz _ (by first | (simp; done) | (simp; omega) | assumption); have hz1 : w.heap.size + 1 < w1.heap.size := hz _ (by first | (simp; done) | (simp; omega) | assumption); have hz0 : w.heap.size < w1.heap.size := hz _ (by first | (simp; done) | (simp; omega) | assumption))))
  go_wp2_with (first | (go_at_call 94; (first | refine (rtruth0_any _).mono ?_ | refine (rtruth1_any _).mono ?_); rintro e w1 ⟨rfl, hb⟩; obtain ⟨hc, hz, hf⟩ := kept hb; (try simp only [World.size_drew, World.cell?_drew, World.frozen?_drew] at hc hz hf); have hz1 : w.heap.size + 1 < w1.heap.size := hz _ (by first | (simp; done) | (simp; omega) | assumption); have hz2 : w.heap.size + 1 + 1 < w1.heap.size := hz _ (by first | (simp; done) | (simp; omega) | assumption)))
  (refine bodyPost_ret (v := .tuple #[(tru 0).v, .int .i64 0]) (by simp [results, Tryd.results91, go_sem, *]) rfl ⟨by (rfl), ?_⟩; (repeat (first | exact ext_refl _ | assumption | (refine ext_alloc ?_ _) | (refine ext_drewN ?_ _) | refine ext_drew ?_ | (refine ext_set (by first | (simp; done) | (simp; omega)) _ ?_) | (refine ext_trans ?_ (by assumption)))))

set_option maxHeartbeats 400000 in
theorem rand_nul_tru1 (w : World) : Calls Tryd.prog 91 #[nul.v, (tru 1).v] w fun e w' => e = .returned (.tuple #[(conn 0 1 nul (tru 1)).1.v, .int .i64 (conn 0 1 nul (tru 1)).2]) ∧ Below w.heap.size w w' := by
  rw [show conn 0 1 nul (tru 1) = (nul, 0) by simp [conn, Val.nullOr, Val.right]]
  have H1 : Hid ((Val.nullOr 2 nul && Val.nullOr 2 (tru 1)) = true) := Lib.hid (by simp [Val.nullOr, Val.right])
  go_enter Tryd.func91, Tryd.ntmps91
  go_wp2_with (first | (go_at_call 105; go_must (refine (of_any 2 nul (tru 1) _).mono ?_; rintro e w1 ⟨rfl, hb⟩; obtain ⟨hc, hz, hf⟩ := kept hb; have hz2 : w.heap.size + 1 + 1 < w1.heap.size := hz _ (by first | (simp; done) | (simp; omega) | assumption); have hz1 : w.heap.size + 1 < w1.heap.size := hz _ (by first | (simp; done) | (simp; omega) | assumption); have hz0 : w.heap.size < w1.heap.size := hz _ (by first | (simp; done) | (simp; omega) | assumption); rw [H1.out])))
  go_region_held3 (fun w' => w'.cell? ⟨w.heap.size, 0, none⟩ = some (.int .i64 0) ∧ w'.cell? ⟨w.heap.size, 1, none⟩ = some (.int .i64 0) ∧ w'.cell? ⟨w.heap.size, 2, none⟩ = some (.string ⟨#[]⟩) ∧ w'.cell? ⟨w.heap.size + 1, 0, none⟩ = some (.int .i64 2) ∧ w'.cell? ⟨w.heap.size + 1, 1, none⟩ = some (.int .i64 1) ∧ w'.cell? ⟨w.heap.size + 1, 2, none⟩ = some (.string ⟨#[]⟩))
    (go_keep) (first | (go_at_call 94; go_must (refine (rtruth0_any _).mono ?_; rintro e w1 ⟨rfl, hb⟩; obtain ⟨hc, hz, hf⟩ := kept hb; (try simp only [World.size_drew, World.cell?_drew, World.frozen?_drew] at hc hz hf); have hz2 : w.heap.size + 1 + 1 < w1.heap.size := hz _ (by first | (simp; done) | (simp; omega) | assumption); have hz1 : w.heap.size + 1 < w1.heap.size := hz _ (by first | (simp; done) | (simp; omega) | assumption); have hz0 : w.heap.size < w1.heap.size := hz _ (by first | (simp; done) | (simp; omega) | assumption))))
  go_wp2_with (first | (go_at_call 94; (first | refine (rtruth0_any _).mono ?_ | refine (rtruth1_any _).mono ?_); rintro e w1 ⟨rfl, hb⟩; obtain ⟨hc, hz, hf⟩ := kept hb; (try simp only [World.size_drew, World.cell?_drew, World.frozen?_drew] at hc hz hf); have hz1 : w.heap.size + 1 < w1.heap.size := hz _ (by first | (simp; done) | (simp; omega) | assumption); have hz2 : w.heap.size + 1 + 1 < w1.heap.size := hz _ (by first | (simp; done) | (simp; omega) | assumption)))
  (refine bodyPost_ret (v := .tuple #[nul.v, .int .i64 0]) (by simp [results, Tryd.results91, go_sem, *]) rfl ⟨by (rfl), ?_⟩; (repeat (first | exact ext_refl _ | assumption | (refine ext_alloc ?_ _) | (refine ext_drewN ?_ _) | refine ext_drew ?_ | (refine ext_set (by first | (simp; done) | (simp; omega)) _ ?_) | (refine ext_trans ?_ (by assumption)))))

set_option maxHeartbeats 400000 in
theorem rand_tru0_nul (w : World) : Calls Tryd.prog 91 #[(tru 0).v, nul.v] w fun e w' => e = .returned (.tuple #[(conn 0 1 (tru 0) nul).1.v, .int .i64 (conn 0 1 (tru 0) nul).2]) ∧ Below w.heap.size w w' := by
  rw [show conn 0 1 (tru 0) nul = ((tru 0), 0) by simp [conn, Val.nullOr, Val.right]]
  have H1 : Hid ((Val.nullOr 2 (tru 0) && Val.nullOr 2 nul) = true) := Lib.hid (by simp [Val.nullOr, Val.right])
  go_enter Tryd.func91, Tryd.ntmps91
  go_wp2_with (first | (go_at_call 105; go_must (refine (of_any 2 (tru 0) nul _).mono ?_; rintro e w1 ⟨rfl, hb⟩; obtain ⟨hc, hz, hf⟩ := kept hb; have hz2 : w.heap.size + 1 + 1 < w1.heap.size := hz _ (by first | (simp; done) | (simp; omega) | assumption); have hz1 : w.heap.size + 1 < w1.heap.size := hz _ (by first | (simp; done) | (simp; omega) | assumption); have hz0 : w.heap.size < w1.heap.size := hz _ (by first | (simp; done) | (simp; omega) | assumption); rw [H1.out])))
  go_region_with (first | (go_at_call 94; go_must (refine (rtruth0_any _).mono ?_; rintro e w1 ⟨rfl, hb⟩; obtain ⟨hc, hz, hf⟩ := kept hb; (try simp only [World.size_drew, World.cell?_drew, World.frozen?_drew] at hc hz hf); have hz2 : w.heap.size + 1 + 1 < w1.heap.size := hz _ (by first | (simp; done) | (simp; omega) | assumption); have hz1 : w.heap.size + 1 < w1.heap.size := hz _ (by first | (simp; done) | (simp; omega) | assumption); have hz0 : w.heap.size < w1.heap.size := hz _ (by first | (simp; done) | (simp; omega) | assumption))))
  all_goals go_wp2_with (first | (go_at_call 94; (first | refine (rtruth0_any _).mono ?_ | refine (rtruth1_any _).mono ?_); rintro e w1 ⟨rfl, hb⟩; obtain ⟨hc, hz, hf⟩ := kept hb; (try simp only [World.size_drew, World.cell?_drew, World.frozen?_drew] at hc hz hf); have hz1 : w.heap.size + 1 < w1.heap.size := hz _ (by first | (simp; done) | (simp; omega) | assumption); have hz2 : w.heap.size + 1 + 1 < w1.heap.size := hz _ (by first | (simp; done) | (simp; omega) | assumption)))
  all_goals (refine bodyPost_ret (v := .tuple #[(tru 0).v, .int .i64 0]) (by simp [results, Tryd.results91, go_sem, *]) rfl ⟨by (rfl), ?_⟩; (repeat (first | exact ext_refl _ | assumption | (refine ext_alloc ?_ _) | (refine ext_drewN ?_ _) | refine ext_drew ?_ | (refine ext_set (by first | (simp; done) | (simp; omega)) _ ?_) | (refine ext_trans ?_ (by assumption)))))

set_option maxHeartbeats 400000 in
theorem rand_tru0_tru0 (w : World) : Calls Tryd.prog 91 #[(tru 0).v, (tru 0).v] w fun e w' => e = .returned (.tuple #[(conn 0 1 (tru 0) (tru 0)).1.v, .int .i64 (conn 0 1 (tru 0) (tru 0)).2]) ∧ Below w.heap.size w w' := by
  rw [show conn 0 1 (tru 0) (tru 0) = ((tru 0), 0) by simp [conn, Val.nullOr, Val.right]]
  have H1 : Hid ((Val.nullOr 2 (tru 0) && Val.nullOr 2 (tru 0)) = true) := Lib.hid (by simp [Val.nullOr, Val.right])
  go_enter Tryd.func91, Tryd.ntmps91
  go_wp2_with (first | (go_at_call 105; go_must (refine (of_any 2 (tru 0) (tru 0) _).mono ?_; rintro e w1 ⟨rfl, hb⟩; obtain ⟨hc, hz, hf⟩ := kept hb; have hz2 : w.heap.size + 1 + 1 < w1.heap.size := hz _ (by first | (simp; done) | (simp; omega) | assumption); have hz1 : w.heap.size + 1 < w1.heap.size := hz _ (by first | (simp; done) | (simp; omega) | assumption); have hz0 : w.heap.size < w1.heap.size := hz _ (by first | (simp; done) | (simp; omega) | assumption); rw [H1.out])))
  go_region_with (first | (go_at_call 94; go_must (refine (rtruth0_any _).mono ?_; rintro e w1 ⟨rfl, hb⟩; obtain ⟨hc, hz, hf⟩ := kept hb; (try simp only [World.size_drew, World.cell?_drew, World.frozen?_drew] at hc hz hf); have hz2 : w.heap.size + 1 + 1 < w1.heap.size := hz _ (by first | (simp; done) | (simp; omega) | assumption); have hz1 : w.heap.size + 1 < w1.heap.size := hz _ (by first | (simp; done) | (simp; omega) | assumption); have hz0 : w.heap.size < w1.heap.size := hz _ (by first | (simp; done) | (simp; omega) | assumption))))
  all_goals go_wp2_with (first | (go_at_call 94; (first | refine (rtruth0_any _).mono ?_ | refine (rtruth1_any _).mono ?_); rintro e w1 ⟨rfl, hb⟩; obtain ⟨hc, hz, hf⟩ := kept hb; (try simp only [World.size_drew, World.cell?_drew, World.frozen?_drew] at hc hz hf); have hz1 : w.heap.size + 1 < w1.heap.size := hz _ (by first | (simp; done) | (simp; omega) | assumption); have hz2 : w.heap.size + 1 + 1 < w1.heap.size := hz _ (by first | (simp; done) | (simp; omega) | assumption)))
  all_goals (refine bodyPost_ret (v := .tuple #[(tru 0).v, .int .i64 0]) (by simp [results, Tryd.results91, go_sem, *]) rfl ⟨by (rfl), ?_⟩; (repeat (first | exact ext_refl _ | assumption | (refine ext_alloc ?_ _) | (refine ext_drewN ?_ _) | refine ext_drew ?_ | (refine ext_set (by first | (simp; done) | (simp; omega)) _ ?_) | (refine ext_trans ?_ (by assumption)))))

set_option maxHeartbeats 400000 in
theorem rand_tru0_tru1 (w : World) : Calls Tryd.prog 91 #[(tru 0).v, (tru 1).v] w fun e w' => e = .returned (.tuple #[(conn 0 1 (tru 0) (tru 1)).1.v, .int .i64 (conn 0 1 (tru 0) (tru 1)).2]) ∧ Below w.heap.size w w' := by
  rw [show conn 0 1 (tru 0) (tru 1) = ((tru 0), 0) by simp [conn, Val.nullOr, Val.right]]
  have H1 : Hid ((Val.nullOr 2 (tru 0) && Val.nullOr 2 (tru 1)) = true) := Lib.hid (by simp [Val.nullOr, Val.right])
  go_enter Tryd.func91, Tryd.ntmps91
  go_wp2_with (first | (go_at_call 105; go_must (refine (of_any 2 (tru 0) (tru 1) _).mono ?_; rintro e w1 ⟨rfl, hb⟩; obtain ⟨hc, hz, hf⟩ := kept hb; have hz2 : w.heap.size + 1 + 1 < w1.heap.size := hz _ (by first | (simp; done) | (simp; omega) | assumption); have hz1 : w.heap.size + 1 < w1.heap.size := hz _ (by first | (simp; done) | (simp; omega) | assumption); have hz0 : w.heap.size < w1.heap.size := hz _ (by first | (simp; done) | (simp; omega) | assumption); rw [H1.out])))
  go_region_with (first | (go_at_call 94; go_must (refine (rtruth0_any _).mono ?_; rintro e w1 ⟨rfl, hb⟩; obtain ⟨hc, hz, hf⟩ := kept hb; (try simp only [World.size_drew, World.cell?_drew, World.frozen?_drew] at hc hz hf); have hz2 : w.heap.size + 1 + 1 < w1.heap.size := hz _ (by first | (simp; done) | (simp; omega) | assumption); have hz1 : w.heap.size + 1 < w1.heap.size := hz _ (by first | (simp; done) | (simp; omega) | assumption); have hz0 : w.heap.size < w1.heap.size := hz _ (by first | (simp; done) | (simp; omega) | assumption))))
  all_goals go_wp2_with (first | (go_at_call 94; (first | refine (rtruth0_any _).mono ?_ | refine (rtruth1_any _).mono ?_); rintro e w1 ⟨rfl, hb⟩; obtain ⟨hc, hz, hf⟩ := kept hb; (try simp only [World.size_drew, World.cell?_drew, World.frozen?_drew] at hc hz hf); have hz1 : w.heap.size + 1 < w1.heap.size := hz _ (by first | (simp; done) | (simp; omega) | assumption); have hz2 : w.heap.size + 1 + 1 < w1.heap.size := hz _ (by first | (simp; done) | (simp; omega) | assumption)))
  all_goals (refine bodyPost_ret (v := .tuple #[(tru 0).v, .int .i64 0]) (by simp [results, Tryd.results91, go_sem, *]) rfl ⟨by (rfl), ?_⟩; (repeat (first | exact ext_refl _ | assumption | (refine ext_alloc ?_ _) | (refine ext_drewN ?_ _) | refine ext_drew ?_ | (refine ext_set (by first | (simp; done) | (simp; omega)) _ ?_) | (refine ext_trans ?_ (by assumption)))))

set_option maxHeartbeats 400000 in
theorem rand_tru1_nul (w : World) : Calls Tryd.prog 91 #[(tru 1).v, nul.v] w fun e w' => e = .returned (.tuple #[(conn 0 1 (tru 1) nul).1.v, .int .i64 (conn 0 1 (tru 1) nul).2]) ∧ Below w.heap.size w w' := by
  rw [show conn 0 1 (tru 1) nul = (nul, 0) by simp [conn, Val.nullOr, Val.right]]
  have H1 : Hid ((Val.nullOr 2 (tru 1) && Val.nullOr 2 nul) = true) := Lib.hid (by simp [Val.nullOr, Val.right])
  go_enter Tryd.func91, Tryd.ntmps91
  go_wp2_with (first | (go_at_call 105; go_must (refine (of_any 2 (tru 1) nul _).mono ?_; rintro e w1 ⟨rfl, hb⟩; obtain ⟨hc, hz, hf⟩ := kept hb; have hz2 : w.heap.size + 1 + 1 < w1.heap.size := hz _ (by first | (simp; done) | (simp; omega) | assumption); have hz1 : w.heap.size + 1 < w1.heap.size := hz _ (by first | (simp; done) | (simp; omega) | assumption); have hz0 : w.heap.size < w1.heap.size := hz _ (by first | (simp; done) | (simp; omega) | assumption); rw [H1.out])))
  go_region_held3 (fun w' => w'.cell? ⟨w.heap.size, 0, none⟩ = some (.int .i64 2) ∧ w'.cell? ⟨w.heap.size, 1, none⟩ = some (.int .i64 1) ∧ w'.cell? ⟨w.heap.size, 2, none⟩ = some (.string ⟨#[]⟩) ∧ w'.cell? ⟨w.heap.size + 1, 0, none⟩ = some (.int .i64 0) ∧ w'.cell? ⟨w.heap.size + 1, 1, none⟩ = some (.int .i64 0) ∧ w'.cell? ⟨w.heap.size + 1, 2, none⟩ = some (.string ⟨#[]⟩))
    (go_keep) (first | (go_at_call 94; go_must (refine (rtruth0_any _).mono ?_; rintro e w1 ⟨rfl, hb⟩; obtain ⟨hc, hz, hf⟩ := kept hb; (try simp only [World.size_drew, World.cell?_drew, World.frozen?_drew] at hc hz hf); have hz2 : w.heap.size + 1 + 1 < w1.heap.size := hz _ (by first | (simp; done) | (simp; omega) | assumption); have hz1 : w.heap.size + 1 < w1.heap.size := hz _ (by first | (simp; done) | (simp; omega) | assumption); have hz0 : w.heap.size < w1.heap.size := hz _ (by first | (simp; done) | (simp; omega) | assumption))))
  go_wp2_with (first | (go_at_call 94; (first | refine (rtruth0_any _).mono ?_ | refine (rtruth1_any _).mono ?_); rintro e w1 ⟨rfl, hb⟩; obtain ⟨hc, hz, hf⟩ := kept hb; (try simp only [World.size_drew, World.cell?_drew, World.frozen?_drew] at hc hz hf); have hz1 : w.heap.size + 1 < w1.heap.size := hz _ (by first | (simp; done) | (simp; omega) | assumption); have hz2 : w.heap.size + 1 + 1 < w1.heap.size := hz _ (by first | (simp; done) | (simp; omega) | assumption)))
  (refine bodyPost_ret (v := .tuple #[nul.v, .int .i64 0]) (by simp [results, Tryd.results91, go_sem, *]) rfl ⟨by (rfl), ?_⟩; (repeat (first | exact ext_refl _ | assumption | (refine ext_alloc ?_ _) | (refine ext_drewN ?_ _) | refine ext_drew ?_ | (refine ext_set (by first | (simp; done) | (simp; omega)) _ ?_) | (refine ext_trans ?_ (by assumption)))))

set_option maxHeartbeats 400000 in
theorem rand_tru1_tru0 (w : World) : Calls Tryd.prog 91 #[(tru 1).v, (tru 0).v] w fun e w' => e = .returned (.tuple #[(conn 0 1 (tru 1) (tru 0)).1.v, .int .i64 (conn 0 1 (tru 1) (tru 0)).2]) ∧ Below w.heap.size w w' := by
  rw [show conn 0 1 (tru 1) (tru 0) = ((tru 0), 0) by simp [conn, Val.nullOr, Val.right]]
  have H1 : Hid ((Val.nullOr 2 (tru 1) && Val.nullOr 2 (tru 0)) = true) := Lib.hid (by simp [Val.nullOr, Val.right])
  go_enter Tryd.func91, Tryd.ntmps91
  go_wp2_with (first | (go_at_call 105; go_must (refine (of_any 2 (tru 1) (tru 0) _).mono ?_; rintro e w1 ⟨rfl, hb⟩; obtain ⟨hc, hz, hf⟩ := kept hb; have hz2 : w.heap.size + 1 + 1 < w1.heap.size := hz _ (by first | (simp; done) | (simp; omega) | assumption); have hz1 : w.heap.size + 1 < w1.heap.size := hz _ (by first | (simp; done) | (simp; omega) | assumption); have hz0 : w.heap.size < w1.heap.size := hz _ (by first | (simp; done) | (simp; omega) | assumption); rw [H1.out])))
  go_region_held3 (fun w' => w'.cell? ⟨w.heap.size, 0, none⟩ = some (.int .i64 2) ∧ w'.cell? ⟨w.heap.size, 1, none⟩ = some (.int .i64 1) ∧ w'.cell? ⟨w.heap.size, 2, none⟩ = some (.string ⟨#[]⟩) ∧ w'.cell? ⟨w.heap.size + 1, 0, none⟩ = some (.int .i64 2) ∧ w'.cell? ⟨w.heap.size + 1, 1, none⟩ = some (.int .i64 0) ∧ w'.cell? ⟨w.heap.size + 1, 2, none⟩ = some (.string ⟨#[]⟩))
    (go_keep) (first | (go_at_call 94; go_must (refine (rtruth0_any _).mono ?_; rintro e w1 ⟨rfl, hb⟩; obtain ⟨hc, hz, hf⟩ := kept hb; (try simp only [World.size_drew, World.cell?_drew, World.frozen?_drew] at hc hz hf); have hz2 : w.heap.size + 1 + 1 < w1.heap.size := hz _ (by first | (simp; done) | (simp; omega) | assumption); have hz1 : w.heap.size + 1 < w1.heap.size := hz _ (by first | (simp; done) | (simp; omega) | assumption); have hz0 : w.heap.size < w1.heap.size := hz _ (by first | (simp; done) | (simp; omega) | assumption))))
  go_wp2_with (first | (go_at_call 94; (first | refine (rtruth0_any _).mono ?_ | refine (rtruth1_any _).mono ?_); rintro e w1 ⟨rfl, hb⟩; obtain ⟨hc, hz, hf⟩ := kept hb; (try simp only [World.size_drew, World.cell?_drew, World.frozen?_drew] at hc hz hf); have hz1 : w.heap.size + 1 < w1.heap.size := hz _ (by first | (simp; done) | (simp; omega) | assumption); have hz2 : w.heap.size + 1 + 1 < w1.heap.size := hz _ (by first | (simp; done) | (simp; omega) | assumption)))
  (refine bodyPost_ret (v := .tuple #[(tru 0).v, .int .i64 0]) (by simp [results, Tryd.results91, go_sem, *]) rfl ⟨by (rfl), ?_⟩; (repeat (first | exact ext_refl _ | assumption | (refine ext_alloc ?_ _) | (refine ext_drewN ?_ _) | refine ext_drew ?_ | (refine ext_set (by first | (simp; done) | (simp; omega)) _ ?_) | (refine ext_trans ?_ (by assumption)))))

set_option maxHeartbeats 400000 in
theorem rand_tru1_tru1 (w : World) : Calls Tryd.prog 91 #[(tru 1).v, (tru 1).v] w fun e w' => e = .returned (.tuple #[(conn 0 1 (tru 1) (tru 1)).1.v, .int .i64 (conn 0 1 (tru 1) (tru 1)).2]) ∧ Below w.heap.size w w' := by
  rw [show conn 0 1 (tru 1) (tru 1) = ((tru 1), 0) by simp [conn, Val.nullOr, Val.right]]
  have H1 : Hid ((Val.nullOr 2 (tru 1) && Val.nullOr 2 (tru 1)) = true) := Lib.hid (by simp [Val.nullOr, Val.right])
  go_enter Tryd.func91, Tryd.ntmps91
  go_wp2_with (first | (go_at_call 105; go_must (refine (of_any 2 (tru 1) (tru 1) _).mono ?_; rintro e w1 ⟨rfl, hb⟩; obtain ⟨hc, hz, hf⟩ := kept hb; have hz2 : w.heap.size + 1 + 1 < w1.heap.size := hz _ (by first | (simp; done) | (simp; omega) | assumption); have hz1 : w.heap.size + 1 < w1.heap.size := hz _ (by first | (simp; done) | (simp; omega) | assumption); have hz0 : w.heap.size < w1.heap.size := hz _ (by first | (simp; done) | (simp; omega) | assumption); rw [H1.out])))
  go_region_held3 (fun w' => w'.cell? ⟨w.heap.size, 0, none⟩ = some (.int .i64 2) ∧ w'.cell? ⟨w.heap.size, 1, none⟩ = some (.int .i64 1) ∧ w'.cell? ⟨w.heap.size, 2, none⟩ = some (.string ⟨#[]⟩) ∧ w'.cell? ⟨w.heap.size + 1, 0, none⟩ = some (.int .i64 2) ∧ w'.cell? ⟨w.heap.size + 1, 1, none⟩ = some (.int .i64 1) ∧ w'.cell? ⟨w.heap.size + 1, 2, none⟩ = some (.string ⟨#[]⟩))
    (go_keep) (first | (go_at_call 94; go_must (refine (rtruth0_any _).mono ?_; rintro e w1 ⟨rfl, hb⟩; obtain ⟨hc, hz, hf⟩ := kept hb; (try simp only [World.size_drew, World.cell?_drew, World.frozen?_drew] at hc hz hf); have hz2 : w.heap.size + 1 + 1 < w1.heap.size := hz _ (by first | (simp; done) | (simp; omega) | assumption); have hz1 : w.heap.size + 1 < w1.heap.size := hz _ (by first | (simp; done) | (simp; omega) | assumption); have hz0 : w.heap.size < w1.heap.size := hz _ (by first | (simp; done) | (simp; omega) | assumption))))
  go_wp2_with (first | (go_at_call 94; (first | refine (rtruth0_any _).mono ?_ | refine (rtruth1_any _).mono ?_); rintro e w1 ⟨rfl, hb⟩; obtain ⟨hc, hz, hf⟩ := kept hb; (try simp only [World.size_drew, World.cell?_drew, World.frozen?_drew] at hc hz hf); have hz1 : w.heap.size + 1 < w1.heap.size := hz _ (by first | (simp; done) | (simp; omega) | assumption); have hz2 : w.heap.size + 1 + 1 < w1.heap.size := hz _ (by first | (simp; done) | (simp; omega) | assumption)))
  (refine bodyPost_ret (v := .tuple #[(tru 1).v, .int .i64 0]) (by simp [results, Tryd.results91, go_sem, *]) rfl ⟨by (rfl), ?_⟩; (repeat (first | exact ext_refl _ | assumption | (refine ext_alloc ?_ _) | (refine ext_drewN ?_ _) | refine ext_drew ?_ | (refine ext_set (by first | (simp; done) | (simp; omega)) _ ?_) | (refine ext_trans ?_ (by assumption)))))

theorem rand_any (x y : Val) (w : World) :
    Calls Tryd.prog 91 #[x.v, y.v] w fun e w' => e = .returned (.tuple #[(conn 0 1 x y).1.v, .int .i64 (conn 0 1 x y).2]) ∧ Below w.heap.size w w' := by
  cases h1 : (x.nullOr 2 && y.nullOr 2)
  · rw [conn_no 0 1 x y h1]
    exact rand_no x y w h1
  rw [Bool.and_eq_true] at h1
  rcases truths h1.1 with rfl | rfl | rfl <;> rcases truths h1.2 with rfl | rfl | rfl
  · exact rand_nul_nul w
  · exact rand_nul_tru0 w
  · exact rand_nul_tru1 w
  · exact rand_tru0_nul w
  · exact rand_tru0_tru0 w
  · exact rand_tru0_tru1 w
  · exact rand_tru1_nul w
  · exact rand_tru1_tru0 w
  · exact rand_tru1_tru1 w

set_option maxHeartbeats 400000 in
theorem ror_no (x y : Val) (w : World) (h : (x.nullOr 2 && y.nullOr 2) = false) :
    Calls Tryd.prog 92 #[x.v, y.v] w fun e w' => e = .returned (.tuple #[nul.v, .int .i64 1]) ∧ Below w.heap.size w w' := by
  obtain ⟨k, n, s⟩ := x
  obtain ⟨l, m, t⟩ := y
  have H1 := Lib.hid h
  clear h
  go_enter Tryd.func92, Tryd.ntmps92
  go_wp2_with (first | (go_at_call 105; go_must (refine (of_any 2 ⟨_, _, _⟩ ⟨_, _, _⟩ _).mono ?_; rintro e w1 ⟨rfl, hb⟩; obtain ⟨hc, hz, hf⟩ := kept hb; have hz2 : w.heap.size + 1 + 1 < w1.heap.size := hz _ (by first | (simp; done) | (simp; omega) | assumption); have hz1 : w.heap.size + 1 < w1.heap.size := hz _ (by first | (simp; done) | (simp; omega) | assumption); have hz0 : w.heap.size < w1.heap.size := hz _ (by first | (simp; done) | (simp; omega) | assumption); rw [H1.out])))
  (refine bodyPost_ret (v := .tuple #[nul.v, .int .i64 1]) (by simp [results, Tryd.results92, go_sem, *]) rfl ⟨by (rfl), ?_⟩; (repeat (first | exact ext_refl _ | assumption | (refine ext_alloc ?_ _) | (refine ext_drewN ?_ _) | refine ext_drew ?_ | (refine ext_set (by first | (simp; done) | (simp; omega)) _ ?_) | (refine ext_trans ?_ (by assumption)))))

set_option maxHeartbeats 400000 in
theorem ror_nul_nul (w : World) : Calls Tryd.prog 92 #[nul.v, nul.v] w fun e w' => e = .returned (.tuple #[(conn 1 0 nul nul).1.v, .int .i64 (conn 1 0 nul nul).2]) ∧ Below w.heap.size w w' := by
  rw [show conn 1 0 nul nul = (nul, 0) by simp [conn, Val.nullOr, Val.right]]
  have H1 : Hid ((Val.nullOr 2 nul && Val.nullOr 2 nul) = true) := Lib.hid (by simp [Val.nullOr, Val.right])
  go_enter Tryd.func92, Tryd.ntmps92
  go_wp2_with (first | (go_at_call 105; go_must (refine (of_any 2 nul nul _).mono ?_; rintro e w1 ⟨rfl, hb⟩; obtain ⟨hc, hz, hf⟩ := kept hb; have hz2 : w.heap.size + 1 + 1 < w1.heap.size := hz _ (by first | (simp; done) | (simp; omega) | assumption); have hz1 : w.heap.size + 1 < w1.heap.size := hz _ (by first | (simp; done) | (simp; omega) | assumption); have hz0 : w.heap.size < w1.heap.size := hz _ (by first | (simp; done) | (simp; omega) | assumption); rw [H1.out])))
  go_region_held3 (fun w' => w'.cell? ⟨w.heap.size, 0, none⟩ = some (.int .i64 0) ∧ w'.cell? ⟨w.heap.size, 1, none⟩ = some (.int .i64 0) ∧ w'.cell? ⟨w.heap.size, 2, none⟩ = some (.string ⟨#[]⟩) ∧ w'.cell? ⟨w.heap.size + 1, 0, none⟩ = some (.int .i64 0) ∧ w'.cell? ⟨w.heap.size + 1, 1, none⟩ = some (.int .i64 0) ∧ w'.cell? ⟨w.heap.size + 1, 2, none⟩ = some (.string ⟨#[]⟩))
    (go_keep) (first | (go_at_call 94; go_must (refine (rtruth1_any _).mono ?_; rintro e w1 ⟨rfl, hb⟩; obtain ⟨hc, hz, hf⟩ := kept hb; (try simp only [World.size_drew, World.cell?_drew, World.frozen?_drew] at hc hz hf); have hz2 : w.heap.size + 1 + 1 < w1.heap.size := hz _ (by first | (simp; done) | (simp; omega) | assumption); have hz1 : w.heap.size + 1 < w1.heap.size := hz _ (by first | (simp; done) | (simp; omega) | assumption); have hz0 : w.heap.size < w1.heap.size := hz _ (by first | (simp; done) | (simp; omega) | assumption))))
  go_wp2_with (first | (go_at_call 94; (first | refine (rtruth0_any _).mono ?_ | refine (rtruth1_any _).mono ?_); rintro e w1 ⟨rfl, hb⟩; obtain ⟨hc, hz, hf⟩ := kept hb; (try simp only [World.size_drew, World.cell?_drew, World.frozen?_drew] at hc hz hf); have hz1 : w.heap.size + 1 < w1.heap.size := hz _ (by first | (simp; done) | (simp; omega) | assumption); have hz2 : w.heap.size + 1 + 1 < w1.heap.size := hz _ (by first | (simp; done) | (simp; omega) | assumption)))
  (refine bodyPost_ret (v := .tuple #[nul.v, .int .i64 0]) (by simp [results, Tryd.results92, go_sem, *]) rfl ⟨by (rfl), ?_⟩; (repeat (first | exact ext_refl _ | assumption | (refine ext_alloc ?_ _) | (refine ext_drewN ?_ _) | refine ext_drew ?_ | (refine ext_set (by first | (simp; done) | (simp; omega)) _ ?_) | (refine ext_trans ?_ (by assumption)))))

set_option maxHeartbeats 400000 in
theorem ror_nul_tru0 (w : World) : Calls Tryd.prog 92 #[nul.v, (tru 0).v] w fun e w' => e = .returned (.tuple #[(conn 1 0 nul (tru 0)).1.v, .int .i64 (conn 1 0 nul (tru 0)).2]) ∧ Below w.heap.size w w' := by
  rw [show conn 1 0 nul (tru 0) = (nul, 0) by simp [conn, Val.nullOr, Val.right]]
  have H1 : Hid ((Val.nullOr 2 nul && Val.nullOr 2 (tru 0)) = true) := Lib.hid (by simp [Val.nullOr, Val.right])
  go_enter Tryd.func92, Tryd.ntmps92
  go_wp2_with (first | (go_at_call 105; go_must (refine (of_any 2 nul (tru 0) _).mono ?_; rintro e w1 ⟨rfl, hb⟩; obtain ⟨hc, hz, hf⟩ := kept hb; have hz2 : w.heap.size + 1 + 1 < w1.heap.size := hz _ (by first | (simp; done) | (simp; omega) | assumption); have hz1 : w.heap.size + 1 < w1.heap.size := hz _ (by first | (simp; done) | (simp; omega) | assumption); have hz0 : w.heap.size < w1.heap.size := hz _ (by first | (simp; done) | (simp; omega) | assumption); rw [H1.out])))
  go_region_held3 (fun w' => w'.cell? ⟨w.heap.size, 0, none⟩ = some (.int .i64 0) ∧ w'.cell? ⟨w.heap.size, 1, none⟩ = some (.int .i64 0) ∧ w'.cell? ⟨w.heap.size, 2, none⟩ = some (.string ⟨#[]⟩) ∧ w'.cell? ⟨w.heap.size + 1, 0, none⟩ = some (.int .i64 2) ∧ w'.cell? ⟨w.heap.size + 1, 1, none⟩ = some (.int .i64 0) ∧ w'.cell? ⟨w.heap.size + 1, 2, none⟩ = some (.string ⟨#[]⟩))
    (go_keep) (first | (go_at_call 94; go_must (refine (rtruth1_any _).mono ?_; rintro e w1 ⟨rfl, hb⟩; obtain ⟨hc, hz, hf⟩ := kept hb; (try simp only [World.size_drew, World.cell?_drew, World.frozen?_drew] at hc hz hf); have hz2 : w.heap.size + 1 + 1 < w1.heap.size := hz _ (by first | (simp; done) | (simp; omega) | assumption); have hz1 : w.heap.size + 1 < w1.heap.size := hz _ (by first | (simp; done) | (simp; omega) | assumption); have hz0 : w.heap.size < w1.heap.size := hz _ (by first | (simp; done) | (simp; omega) | assumption))))
  go_wp2_with (first | (go_at_call 94; (first | refine (rtruth0_any _).mono ?_ | refine (rtruth1_any _).mono ?_); rintro e w1 ⟨rfl, hb⟩; obtain ⟨hc, hz, hf⟩ := kept hb; (try simp only [World.size_drew, World.cell?_drew, World.frozen?_drew] at hc hz hf); have hz1 : w.heap.size + 1 < w1.heap.size := hz _ (by first | (simp; done) | (simp; omega) | assumption); have hz2 : w.heap.size + 1 + 1 < w1.heap.size := hz _ (by first | (simp; done) | (simp; omega) | assumption)))
  (refine bodyPost_ret (v := .tuple #[nul.v, .int .i64 0]) (by simp [results, Tryd.results92, go_sem, *]) rfl ⟨by (rfl), ?_⟩; (repeat (first | exact ext_refl _ | assumption | (refine ext_alloc ?_ _) | (refine ext_drewN ?_ _) | refine ext_drew ?_ | (refine ext_set (by first | (simp; done) | (simp; omega)) _ ?_) | (refine ext_trans ?_ (by assumption)))))

set_option maxHeartbeats 400000 in
theorem ror_nul_tru1 (w : World) : Calls Tryd.prog 92 #[nul.v, (tru 1).v] w fun e w' => e = .returned (.tuple #[(conn 1 0 nul (tru 1)).1.v, .int .i64 (conn 1 0 nul (tru 1)).2]) ∧ Below w.heap.size w w' := by
  rw [show conn 1 0 nul (tru 1) = ((tru 1), 0) by simp [conn, Val.nullOr, Val.right]]
  have H1 : Hid ((Val.nullOr 2 nul && Val.nullOr 2 (tru 1)) = true) := Lib.hid (by simp [Val.nullOr, Val.right])
  go_enter Tryd.func92, Tryd.ntmps92
  go_wp2_with (first | (go_at_call 105; go_must (refine (of_any 2 nul (tru 1) _).mono ?_; rintro e w1 ⟨rfl, hb⟩; obtain ⟨hc, hz, hf⟩ := kept hb; have hz2 : w.heap.size + 1 + 1 < w1.heap.size := hz _ (by first | (simp; done) | (simp; omega) | assumption); have hz1 : w.heap.size + 1 < w1.heap.size := hz _ (by first | (simp; done) | (simp; omega) | assumption); have hz0 : w.heap.size < w1.heap.size := hz _ (by first | (simp; done) | (simp; omega) | assumption); rw [H1.out])))
  go_region_held3 (fun w' => w'.cell? ⟨w.heap.size, 0, none⟩ = some (.int .i64 0) ∧ w'.cell? ⟨w.heap.size, 1, none⟩ = some (.int .i64 0) ∧ w'.cell? ⟨w.heap.size, 2, none⟩ = some (.string ⟨#[]⟩) ∧ w'.cell? ⟨w.heap.size + 1, 0, none⟩ = some (.int .i64 2) ∧ w'.cell? ⟨w.heap.size + 1, 1, none⟩ = some (.int .i64 1) ∧ w'.cell? ⟨w.heap.size + 1, 2, none⟩ = some (.string ⟨#[]⟩))
    (go_keep) (first | (go_at_call 94; go_must (refine (rtruth1_any _).mono ?_; rintro e w1 ⟨rfl, hb⟩; obtain ⟨hc, hz, hf⟩ := kept hb; (try simp only [World.size_drew, World.cell?_drew, World.frozen?_drew] at hc hz hf); have hz2 : w.heap.size + 1 + 1 < w1.heap.size := hz _ (by first | (simp; done) | (simp; omega) | assumption); have hz1 : w.heap.size + 1 < w1.heap.size := hz _ (by first | (simp; done) | (simp; omega) | assumption); have hz0 : w.heap.size < w1.heap.size := hz _ (by first | (simp; done) | (simp; omega) | assumption))))
  go_wp2_with (first | (go_at_call 94; (first | refine (rtruth0_any _).mono ?_ | refine (rtruth1_any _).mono ?_); rintro e w1 ⟨rfl, hb⟩; obtain ⟨hc, hz, hf⟩ := kept hb; (try simp only [World.size_drew, World.cell?_drew, World.frozen?_drew] at hc hz hf); have hz1 : w.heap.size + 1 < w1.heap.size := hz _ (by first | (simp; done) | (simp; omega) | assumption); have hz2 : w.heap.size + 1 + 1 < w1.heap.size := hz _ (by first | (simp; done) | (simp; omega) | assumption)))
  (refine bodyPost_ret (v := .tuple #[(tru 1).v, .int .i64 0]) (by simp [results, Tryd.results92, go_sem, *]) rfl ⟨by (rfl), ?_⟩; (repeat (first | exact ext_refl _ | assumption | (refine ext_alloc ?_ _) | (refine ext_drewN ?_ _) | refine ext_drew ?_ | (refine ext_set (by first | (simp; done) | (simp; omega)) _ ?_) | (refine ext_trans ?_ (by assumption)))))

set_option maxHeartbeats 400000 in
theorem ror_tru0_nul (w : World) : Calls Tryd.prog 92 #[(tru 0).v, nul.v] w fun e w' => e = .returned (.tuple #[(conn 1 0 (tru 0) nul).1.v, .int .i64 (conn 1 0 (tru 0) nul).2]) ∧ Below w.heap.size w w' := by
  rw [show conn 1 0 (tru 0) nul = (nul, 0) by simp [conn, Val.nullOr, Val.right]]
  have H1 : Hid ((Val.nullOr 2 (tru 0) && Val.nullOr 2 nul) = true) := Lib.hid (by simp [Val.nullOr, Val.right])
  go_enter Tryd.func92, Tryd.ntmps92
  go_wp2_with (first | (go_at_call 105; go_must (refine (of_any 2 (tru 0) nul _).mono ?_; rintro e w1 ⟨rfl, hb⟩; obtain ⟨hc, hz, hf⟩ := kept hb; have hz2 : w.heap.size + 1 + 1 < w1.heap.size := hz _ (by first | (simp; done) | (simp; omega) | assumption); have hz1 : w.heap.size + 1 < w1.heap.size := hz _ (by first | (simp; done) | (simp; omega) | assumption); have hz0 : w.heap.size < w1.heap.size := hz _ (by first | (simp; done) | (simp; omega) | assumption); rw [H1.out])))
  go_region_held3 (fun w' => w'.cell? ⟨w.heap.size, 0, none⟩ = some (.int .i64 2) ∧ w'.cell? ⟨w.heap.size, 1, none⟩ = some (.int .i64 0) ∧ w'.cell? ⟨w.heap.size, 2, none⟩ = some (.string ⟨#[]⟩) ∧ w'.cell? ⟨w.heap.size + 1, 0, none⟩ = some (.int .i64 0) ∧ w'.cell? ⟨w.heap.size + 1, 1, none⟩ = some (.int .i64 0) ∧ w'.cell? ⟨w.heap.size + 1, 2, none⟩ = some (.string ⟨#[]⟩))
    (go_keep) (first | (go_at_call 94; go_must (refine (rtruth1_any _).mono ?_; rintro e w1 ⟨rfl, hb⟩; obtain ⟨hc, hz, hf⟩ := kept hb; (try simp only [World.size_drew, World.cell?_drew, World.frozen?_drew] at hc hz hf); have hz2 : w.heap.size + 1 + 1 < w1.heap.size := hz _ (by first | (simp; done) | (simp; omega) | assumption); have hz1 : w.heap.size + 1 < w1.heap.size := hz _ (by first | (simp; done) | (simp; omega) | assumption); have hz0 : w.heap.size < w1.heap.size := hz _ (by first | (simp; done) | (simp; omega) | assumption))))
  go_wp2_with (first | (go_at_call 94; (first | refine (rtruth0_any _).mono ?_ | refine (rtruth1_any _).mono ?_); rintro e w1 ⟨rfl, hb⟩; obtain ⟨hc, hz, hf⟩ := kept hb; (try simp only [World.size_drew, World.cell?_drew, World.frozen?_drew] at hc hz hf); have hz1 : w.heap.size + 1 < w1.heap.size := hz _ (by first | (simp; done) | (simp; omega) | assumption); have hz2 : w.heap.size + 1 + 1 < w1.heap.size := hz _ (by first | (simp; done) | (simp; omega) | assumption)))
  (refine bodyPost_ret (v := .tuple #[nul.v, .int .i64 0]) (by simp [results, Tryd.results92, go_sem, *]) rfl ⟨by (rfl), ?_⟩; (repeat (first | exact ext_refl _ | assumption | (refine ext_alloc ?_ _) | (refine ext_drewN ?_ _) | refine ext_drew ?_ | (refine ext_set (by first | (simp; done) | (simp; omega)) _ ?_) | (refine ext_trans ?_ (by assumption)))))

set_option maxHeartbeats 400000 in
theorem ror_tru0_tru0 (w : World) : Calls Tryd.prog 92 #[(tru 0).v, (tru 0).v] w fun e w' => e = .returned (.tuple #[(conn 1 0 (tru 0) (tru 0)).1.v, .int .i64 (conn 1 0 (tru 0) (tru 0)).2]) ∧ Below w.heap.size w w' := by
  rw [show conn 1 0 (tru 0) (tru 0) = ((tru 0), 0) by simp [conn, Val.nullOr, Val.right]]
  have H1 : Hid ((Val.nullOr 2 (tru 0) && Val.nullOr 2 (tru 0)) = true) := Lib.hid (by simp [Val.nullOr, Val.right])
  go_enter Tryd.func92, Tryd.ntmps92
  go_wp2_with (first | (go_at_call 105; go_must (refine (of_any 2 (tru 0) (tru 0) _).mono ?_; rintro e w1 ⟨rfl, hb⟩; obtain ⟨hc, hz, hf⟩ := kept hb; have hz2 : w.heap.size + 1 + 1 < w1.heap.size := hz _ (by first | (simp; done) | (simp; omega) | assumption); have hz1 : w.heap.size + 1 < w1.heap.size := hz _ (by first | (simp; done) | (simp; omega) | assumption); have hz0 : w.heap.size < w1.heap.size := hz _ (by first | (simp; done) | (simp; omega) | assumption); rw [H1.out])))
  go_region_held3 (fun w' => w'.cell? ⟨w.heap.size, 0, none⟩ = some (.int .i64 2) ∧ w'.cell? ⟨w.heap.size, 1, none⟩ = some (.int .i64 0) ∧ w'.cell? ⟨w.heap.size, 2, none⟩ = some (.string ⟨#[]⟩) ∧ w'.cell? ⟨w.heap.size + 1, 0, none⟩ = some (.int .i64 2) ∧ w'.cell? ⟨w.heap.size + 1, 1, none⟩ = some (.int .i64 0) ∧ w'.cell? ⟨w.heap.size + 1, 2, none⟩ = some (.string ⟨#[]⟩))
    (go_keep) (first | (go_at_call 94; go_must (refine (rtruth1_any _).mono ?_; rintro e w1 ⟨rfl, hb⟩; obtain ⟨hc, hz, hf⟩ := kept hb; (try simp only [World.size_drew, World.cell?_drew, World.frozen?_drew] at hc hz hf); have hz2 : w.heap.size + 1 + 1 < w1.heap.size := hz _ (by first | (simp; done) | (simp; omega) | assumption); have hz1 : w.heap.size + 1 < w1.heap.size := hz _ (by first | (simp; done) | (simp; omega) | assumption); have hz0 : w.heap.size < w1.heap.size := hz _ (by first | (simp; done) | (simp; omega) | assumption))))
  go_wp2_with (first | (go_at_call 94; (first | refine (rtruth0_any _).mono ?_ | refine (rtruth1_any _).mono ?_); rintro e w1 ⟨rfl, hb⟩; obtain ⟨hc, hz, hf⟩ := kept hb; (try simp only [World.size_drew, World.cell?_drew, World.frozen?_drew] at hc hz hf); have hz1 : w.heap.size + 1 < w1.heap.size := hz _ (by first | (simp; done) | (simp; omega) | assumption); have hz2 : w.heap.size + 1 + 1 < w1.heap.size := hz _ (by first | (simp; done) | (simp; omega) | assumption)))
  (refine bodyPost_ret (v := .tuple #[(tru 0).v, .int .i64 0]) (by simp [results, Tryd.results92, go_sem, *]) rfl ⟨by (rfl), ?_⟩; (repeat (first | exact ext_refl _ | assumption | (refine ext_alloc ?_ _) | (refine ext_drewN ?_ _) | refine ext_drew ?_ | (refine ext_set (by first | (simp; done) | (simp; omega)) _ ?_) | (refine ext_trans ?_ (by assumption)))))

set_option maxHeartbeats 400000 in
theorem ror_tru0_tru1 (w : World) : Calls Tryd.prog 92 #[(tru 0).v, (tru 1).v] w fun e w' => e = .returned (.tuple #[(conn 1 0 (tru 0) (tru 1)).1.v, .int .i64 (conn 1 0 (tru 0) (tru 1)).2]) ∧ Below w.heap.size w w' := by
  rw [show conn 1 0 (tru 0) (tru 1) = ((tru 1), 0) by simp [conn, Val.nullOr, Val.right]]
  have H1 : Hid ((Val.nullOr 2 (tru 0) && Val.nullOr 2 (tru 1)) = true) := Lib.hid (by simp [Val.nullOr, Val.right])
  go_enter Tryd.func92, Tryd.ntmps92
  go_wp2_with (first | (go_at_call 105; go_must (refine (of_any 2 (tru 0) (tru 1) _).mono ?_; rintro e w1 ⟨rfl, hb⟩; obtain ⟨hc, hz, hf⟩ := kept hb; have hz2 : w.heap.size + 1 + 1 < w1.heap.size := hz _ (by first | (simp; done) | (simp; omega) | assumption); have hz1 : w.heap.size + 1 < w1.heap.size := hz _ (by first | (simp; done) | (simp; omega) | assumption); have hz0 : w.heap.size < w1.heap.size := hz _ (by first | (simp; done) | (simp; omega) | assumption); rw [H1.out])))
  go_region_held3 (fun w' => w'.cell? ⟨w.heap.size, 0, none⟩ = some (.int .i64 2) ∧ w'.cell? ⟨w.heap.size, 1, none⟩ = some (.int .i64 0) ∧ w'.cell? ⟨w.heap.size, 2, none⟩ = some (.string ⟨#[]⟩) ∧ w'.cell? ⟨w.heap.size + 1, 0, none⟩ = some (.int .i64 2) ∧ w'.cell? ⟨w.heap.size + 1, 1, none⟩ = some (.int .i64 1) ∧ w'.cell? ⟨w.heap.size + 1, 2, none⟩ = some (.string ⟨#[]⟩))
    (go_keep) (first | (go_at_call 94; go_must (refine (rtruth1_any _).mono ?_; rintro e w1 ⟨rfl, hb⟩; obtain ⟨hc, hz, hf⟩ := kept hb; (try simp only [World.size_drew, World.cell?_drew, World.frozen?_drew] at hc hz hf); have hz2 : w.heap.size + 1 + 1 < w1.heap.size := hz _ (by first | (simp; done) | (simp; omega) | assumption); have hz1 : w.heap.size + 1 < w1.heap.size := hz _ (by first | (simp; done) | (simp; omega) | assumption); have hz0 : w.heap.size < w1.heap.size := hz _ (by first | (simp; done) | (simp; omega) | assumption))))
  go_wp2_with (first | (go_at_call 94; (first | refine (rtruth0_any _).mono ?_ | refine (rtruth1_any _).mono ?_); rintro e w1 ⟨rfl, hb⟩; obtain ⟨hc, hz, hf⟩ := kept hb; (try simp only [World.size_drew, World.cell?_drew, World.frozen?_drew] at hc hz hf); have hz1 : w.heap.size + 1 < w1.heap.size := hz _ (by first | (simp; done) | (simp; omega) | assumption); have hz2 : w.heap.size + 1 + 1 < w1.heap.size := hz _ (by first | (simp; done) | (simp; omega) | assumption)))
  (refine bodyPost_ret (v := .tuple #[(tru 1).v, .int .i64 0]) (by simp [results, Tryd.results92, go_sem, *]) rfl ⟨by (rfl), ?_⟩; (repeat (first | exact ext_refl _ | assumption | (refine ext_alloc ?_ _) | (refine ext_drewN ?_ _) | refine ext_drew ?_ | (refine ext_set (by first | (simp; done) | (simp; omega)) _ ?_) | (refine ext_trans ?_ (by assumption)))))

set_option maxHeartbeats 400000 in
theorem ror_tru1_nul (w : World) : Calls Tryd.prog 92 #[(tru 1).v, nul.v] w fun e w' => e = .returned (.tuple #[(conn 1 0 (tru 1) nul).1.v, .int .i64 (conn 1 0 (tru 1) nul).2]) ∧ Below w.heap.size w w' := by
  rw [show conn 1 0 (tru 1) nul = ((tru 1), 0) by simp [conn, Val.nullOr, Val.right]]
  have H1 : Hid ((Val.nullOr 2 (tru 1) && Val.nullOr 2 nul) = true) := Lib.hid (by simp [Val.nullOr, Val.right])
  go_enter Tryd.func92, Tryd.ntmps92
  go_wp2_with (first | (go_at_call 105; go_must (refine (of_any 2 (tru 1) nul _).mono ?_; rintro e w1 ⟨rfl, hb⟩; obtain ⟨hc, hz, hf⟩ := kept hb; have hz2 : w.heap.size + 1 + 1 < w1.heap.size := hz _ (by first | (simp; done) | (simp; omega) | assumption); have hz1 : w.heap.size + 1 < w1.heap.size := hz _ (by first | (simp; done) | (simp; omega) | assumption); have hz0 : w.heap.size < w1.heap.size := hz _ (by first | (simp; done) | (simp; omega) | assumption); rw [H1.out])))
  go_region_with (first | (go_at_call 94; go_must (refine (rtruth1_any _).mono ?_; rintro e w1 ⟨rfl, hb⟩; obtain ⟨hc, hz, hf⟩ := kept hb; (try simp only [World.size_drew, World.cell?_drew, World.frozen?_drew] at hc hz hf); have hz2 : w.heap.size + 1 + 1 < w1.heap.size := hz _ (by first | (simp; done) | (simp; omega) | assumption); have hz1 : w.heap.size + 1 < w1.heap.size := hz _ (by first | (simp; done) | (simp; omega) | assumption); have hz0 : w.heap.size < w1.heap.size := hz _ (by first | (simp; done) | (simp; omega) | assumption))))
  all_goals go_wp2_with (first | (go_at_call 94; (first | refine (rtruth0_any _).mono ?_ | refine (rtruth1_any _).mono ?_); rintro e w1 ⟨rfl, hb⟩; obtain ⟨hc, hz, hf⟩ := kept hb; (try simp only [World.size_drew, World.cell?_drew, World.frozen?_drew] at hc hz hf); have hz1 : w.heap.size + 1 < w1.heap.size := hz _ (by first | (simp; done) | (simp; omega) | assumption); have hz2 : w.heap.size + 1 + 1 < w1.heap.size := hz _ (by first | (simp; done) | (simp; omega) | assumption)))
  all_goals (refine bodyPost_ret (v := .tuple #[(tru 1).v, .int .i64 0]) (by simp [results, Tryd.results92, go_sem, *]) rfl ⟨by (rfl), ?_⟩; (repeat (first | exact ext_refl _ | assumption | (refine ext_alloc ?_ _) | (refine ext_drewN ?_ _) | refine ext_drew ?_ | (refine ext_set (by first | (simp; done) | (simp; omega)) _ ?_) | (refine ext_trans ?_ (by assumption)))))

set_option maxHeartbeats 400000 in
theorem ror_tru1_tru0 (w : World) : Calls Tryd.prog 92 #[(tru 1).v, (tru 0).v] w fun e w' => e = .returned (.tuple #[(conn 1 0 (tru 1) (tru 0)).1.v, .int .i64 (conn 1 0 (tru 1) (tru 0)).2]) ∧ Below w.heap.size w w' := by
  rw [show conn 1 0 (tru 1) (tru 0) = ((tru 1), 0) by simp [conn, Val.nullOr, Val.right]]
  have H1 : Hid ((Val.nullOr 2 (tru 1) && Val.nullOr 2 (tru 0)) = true) := Lib.hid (by simp [Val.nullOr, Val.right])
  go_enter Tryd.func92, Tryd.ntmps92
  go_wp2_with (first | (go_at_call 105; go_must (refine (of_any 2 (tru 1) (tru 0) _).mono ?_; rintro e w1 ⟨rfl, hb⟩; obtain ⟨hc, hz, hf⟩ := kept hb; have hz2 : w.heap.size + 1 + 1 < w1.heap.size := hz _ (by first | (simp; done) | (simp; omega) | assumption); have hz1 : w.heap.size + 1 < w1.heap.size := hz _ (by first | (simp; done) | (simp; omega) | assumption); have hz0 : w.heap.size < w1.heap.size := hz _ (by first | (simp; done) | (simp; omega) | assumption); rw [H1.out])))
  go_region_with (first | (go_at_call 94; go_must (refine (rtruth1_any _).mono ?_; rintro e w1 ⟨rfl, hb⟩; obtain ⟨hc, hz, hf⟩ := kept hb; (try simp only [World.size_drew, World.cell?_drew, World.frozen?_drew] at hc hz hf); have hz2 : w.heap.size + 1 + 1 < w1.heap.size := hz _ (by first | (simp; done) | (simp; omega) | assumption); have hz1 : w.heap.size + 1 < w1.heap.size := hz _ (by first | (simp; done) | (simp; omega) | assumption); have hz0 : w.heap.size < w1.heap.size := hz _ (by first | (simp; done) | (simp; omega) | assumption))))
  all_goals go_wp2_with (first | (go_at_call 94; (first | refine (rtruth0_any _).mono ?_ | refine (rtruth1_any _).mono ?_); rintro e w1 ⟨rfl, hb⟩; obtain ⟨hc, hz, hf⟩ := kept hb; (try simp only [World.size_drew, World.cell?_drew, World.frozen?_drew] at hc hz hf); have hz1 : w.heap.size + 1 < w1.heap.size := hz _ (by first | (simp; done) | (simp; omega) | assumption); have hz2 : w.heap.size + 1 + 1 < w1.heap.size := hz _ (by first | (simp; done) | (simp; omega) | assumption)))
  all_goals (refine bodyPost_ret (v := .tuple #[(tru 1).v, .int .i64 0]) (by simp [results, Tryd.results92, go_sem, *]) rfl ⟨by (rfl), ?_⟩; (repeat (first | exact ext_refl _ | assumption | (refine ext_alloc ?_ _) | (refine ext_drewN ?_ _) | refine ext_drew ?_ | (refine ext_set (by first | (simp; done) | (simp; omega)) _ ?_) | (refine ext_trans ?_ (by assumption)))))

set_option maxHeartbeats 400000 in
theorem ror_tru1_tru1 (w : World) : Calls Tryd.prog 92 #[(tru 1).v, (tru 1).v] w fun e w' => e = .returned (.tuple #[(conn 1 0 (tru 1) (tru 1)).1.v, .int .i64 (conn 1 0 (tru 1) (tru 1)).2]) ∧ Below w.heap.size w w' := by
  rw [show conn 1 0 (tru 1) (tru 1) = ((tru 1), 0) by simp [conn, Val.nullOr, Val.right]]
  have H1 : Hid ((Val.nullOr 2 (tru 1) && Val.nullOr 2 (tru 1)) = true) := Lib.hid (by simp [Val.nullOr, Val.right])
  go_enter Tryd.func92, Tryd.ntmps92
  go_wp2_with (first | (go_at_call 105; go_must (refine (of_any 2 (tru 1) (tru 1) _).mono ?_; rintro e w1 ⟨rfl, hb⟩; obtain ⟨hc, hz, hf⟩ := kept hb; have hz2 : w.heap.size + 1 + 1 < w1.heap.size := hz _ (by first | (simp; done) | (simp; omega) | assumption); have hz1 : w.heap.size + 1 < w1.heap.size := hz _ (by first | (simp; done) | (simp; omega) | assumption); have hz0 : w.heap.size < w1.heap.size := hz _ (by first | (simp; done) | (simp; omega) | assumption); rw [H1.out])))
  go_region_with (first | (go_at_call 94; go_must (refine (rtruth1_any _).mono ?_; rintro e w1 ⟨rfl, hb⟩; obtain ⟨hc, hz, hf⟩ := kept hb; (try simp only [World.size_drew, World.cell?_drew, World.frozen?_drew] at hc hz hf); have hz2 : w.heap.size + 1 + 1 < w1.heap.size := hz _ (by first | (simp; done) | (simp; omega) | assumption); have hz1 : w.heap.size + 1 < w1.heap.size := hz _ (by first | (simp; done) | (simp; omega) | assumption); have hz0 : w.heap.size < w1.heap.size := hz _ (by first | (simp; done) | (simp; omega) | assumption))))
  all_goals go_wp2_with (first | (go_at_call 94; (first | refine (rtruth0_any _).mono ?_ | refine (rtruth1_any _).mono ?_); rintro e w1 ⟨rfl, hb⟩; obtain ⟨hc, hz, hf⟩ := kept hb; (try simp only [World.size_drew, World.cell?_drew, World.frozen?_drew] at hc hz hf); have hz1 : w.heap.size + 1 < w1.heap.size := hz _ (by first | (simp; done) | (simp; omega) | assumption); have hz2 : w.heap.size + 1 + 1 < w1.heap.size := hz _ (by first | (simp; done) | (simp; omega) | assumption)))
  all_goals (refine bodyPost_ret (v := .tuple #[(tru 1).v, .int .i64 0]) (by simp [results, Tryd.results92, go_sem, *]) rfl ⟨by (rfl), ?_⟩; (repeat (first | exact ext_refl _ | assumption | (refine ext_alloc ?_ _) | (refine ext_drewN ?_ _) | refine ext_drew ?_ | (refine ext_set (by first | (simp; done) | (simp; omega)) _ ?_) | (refine ext_trans ?_ (by assumption)))))

theorem ror_any (x y : Val) (w : World) :
    Calls Tryd.prog 92 #[x.v, y.v] w fun e w' => e = .returned (.tuple #[(conn 1 0 x y).1.v, .int .i64 (conn 1 0 x y).2]) ∧ Below w.heap.size w w' := by
  cases h1 : (x.nullOr 2 && y.nullOr 2)
  · rw [conn_no 1 0 x y h1]
    exact ror_no x y w h1
  rw [Bool.and_eq_true] at h1
  rcases truths h1.1 with rfl | rfl | rfl <;> rcases truths h1.2 with rfl | rfl | rfl
  · exact ror_nul_nul w
  · exact ror_nul_tru0 w
  · exact ror_nul_tru1 w
  · exact ror_tru0_nul w
  · exact ror_tru0_tru0 w
  · exact ror_tru0_tru1 w
  · exact ror_tru1_nul w
  · exact ror_tru1_tru0 w
  · exact ror_tru1_tru1 w

set_option maxHeartbeats 400000 in
theorem rnot_no (x : Val) (w : World) (h : x.nullOr 2 = false) :
    Calls Tryd.prog 93 #[x.v] w fun e w' => e = .returned (.tuple #[nul.v, .int .i64 1]) ∧ Below w.heap.size w w' := by
  obtain ⟨k, n, s⟩ := x
  have H1 := Lib.hid (show (Val.nullOr 2 ⟨k, n, s⟩ && Val.nullOr 2 ⟨k, n, s⟩) = false by rw [h]; rfl)
  clear h
  go_enter Tryd.func93, Tryd.ntmps93
  go_wp2_with (first | (go_at_call 105; go_must (refine (of_any 2 ⟨_, _, _⟩ ⟨_, _, _⟩ _).mono ?_; rintro e w1 ⟨rfl, hb⟩; obtain ⟨hc, hz, hf⟩ := kept hb; have hz1 : w.heap.size + 1 < w1.heap.size := hz _ (by first | (simp; done) | (simp; omega) | assumption); have hz0 : w.heap.size < w1.heap.size := hz _ (by first | (simp; done) | (simp; omega) | assumption); rw [H1.out])))
  (refine bodyPost_ret (v := .tuple #[nul.v, .int .i64 1]) (by simp [results, Tryd.results93, go_sem, *]) rfl ⟨by (rfl), ?_⟩; (repeat (first | exact ext_refl _ | assumption | (refine ext_alloc ?_ _) | (refine ext_drewN ?_ _) | refine ext_drew ?_ | (refine ext_set (by first | (simp; done) | (simp; omega)) _ ?_) | (refine ext_trans ?_ (by assumption)))))

set_option maxHeartbeats 400000 in
theorem rnot_nul (w : World) : Calls Tryd.prog 93 #[nul.v] w fun e w' => e = .returned (.tuple #[(notS nul).1.v, .int .i64 (notS nul).2]) ∧ Below w.heap.size w w' := by
  rw [show notS nul = (nul, 0) by simp [notS, Val.nullOr, Val.right]]
  have H1 : Hid ((Val.nullOr 2 nul && Val.nullOr 2 nul) = true) := Lib.hid (by simp [Val.nullOr, Val.right])
  go_enter Tryd.func93, Tryd.ntmps93
  go_wp2_with (first | (go_at_call 105; go_must (refine (of_any 2 nul nul _).mono ?_; rintro e w1 ⟨rfl, hb⟩; obtain ⟨hc, hz, hf⟩ := kept hb; have hz1 : w.heap.size + 1 < w1.heap.size := hz _ (by first | (simp; done) | (simp; omega) | assumption); have hz0 : w.heap.size < w1.heap.size := hz _ (by first | (simp; done) | (simp; omega) | assumption); rw [H1.out])) | (go_at_call 94; (first | refine (rtruth0_any _).mono ?_ | refine (rtruth1_any _).mono ?_); rintro e w1 ⟨rfl, hb⟩; obtain ⟨hc, hz, hf⟩ := kept hb; (try simp only [World.size_drew, World.cell?_drew, World.frozen?_drew] at hc hz hf); have hz1 : w.heap.size + 1 < w1.heap.size := hz _ (by first | (simp; done) | (simp; omega) | assumption)))
  (refine bodyPost_ret (v := .tuple #[nul.v, .int .i64 0]) (by simp [results, Tryd.results93, go_sem, *]) rfl ⟨by (rfl), ?_⟩; (repeat (first | exact ext_refl _ | assumption | (refine ext_alloc ?_ _) | (refine ext_drewN ?_ _) | refine ext_drew ?_ | (refine ext_set (by first | (simp; done) | (simp; omega)) _ ?_) | (refine ext_trans ?_ (by assumption)))))

set_option maxHeartbeats 400000 in
theorem rnot_tru0 (w : World) : Calls Tryd.prog 93 #[(tru 0).v] w fun e w' => e = .returned (.tuple #[(notS (tru 0)).1.v, .int .i64 (notS (tru 0)).2]) ∧ Below w.heap.size w w' := by
  rw [show notS (tru 0) = ((tru 1), 0) by simp [notS, Val.nullOr, Val.right]]
  have H1 : Hid ((Val.nullOr 2 (tru 0) && Val.nullOr 2 (tru 0)) = true) := Lib.hid (by simp [Val.nullOr, Val.right])
  go_enter Tryd.func93, Tryd.ntmps93
  go_wp2_with (first | (go_at_call 105; go_must (refine (of_any 2 (tru 0) (tru 0) _).mono ?_; rintro e w1 ⟨rfl, hb⟩; obtain ⟨hc, hz, hf⟩ := kept hb; have hz1 : w.heap.size + 1 < w1.heap.size := hz _ (by first | (simp; done) | (simp; omega) | assumption); have hz0 : w.heap.size < w1.heap.size := hz _ (by first | (simp; done) | (simp; omega) | assumption); rw [H1.out])) | (go_at_call 94; (first | refine (rtruth0_any _).mono ?_ | refine (rtruth1_any _).mono ?_); rintro e w1 ⟨rfl, hb⟩; obtain ⟨hc, hz, hf⟩ := kept hb; (try simp only [World.size_drew, World.cell?_drew, World.frozen?_drew] at hc hz hf); have hz1 : w.heap.size + 1 < w1.heap.size := hz _ (by first | (simp; done) | (simp; omega) | assumption)))
  (refine bodyPost_ret (v := .tuple #[(tru 1).v, .int .i64 0]) (by simp [results, Tryd.results93, go_sem, *]) rfl ⟨by (rfl), ?_⟩; (repeat (first | exact ext_refl _ | assumption | (refine ext_alloc ?_ _) | (refine ext_drewN ?_ _) | refine ext_drew ?_ | (refine ext_set (by first | (simp; done) | (simp; omega)) _ ?_) | (refine ext_trans ?_ (by assumption)))))

set_option maxHeartbeats 400000 in
theorem rnot_tru1 (w : World) : Calls Tryd.prog 93 #[(tru 1).v] w fun e w' => e = .returned (.tuple #[(notS (tru 1)).1.v, .int .i64 (notS (tru 1)).2]) ∧ Below w.heap.size w w' := by
  rw [show notS (tru 1) = ((tru 0), 0) by simp [notS, Val.nullOr, Val.right]]
  have H1 : Hid ((Val.nullOr 2 (tru 1) && Val.nullOr 2 (tru 1)) = true) := Lib.hid (by simp [Val.nullOr, Val.right])
  go_enter Tryd.func93, Tryd.ntmps93
  go_wp2_with (first | (go_at_call 105; go_must (refine (of_any 2 (tru 1) (tru 1) _).mono ?_; rintro e w1 ⟨rfl, hb⟩; obtain ⟨hc, hz, hf⟩ := kept hb; have hz1 : w.heap.size + 1 < w1.heap.size := hz _ (by first | (simp; done) | (simp; omega) | assumption); have hz0 : w.heap.size < w1.heap.size := hz _ (by first | (simp; done) | (simp; omega) | assumption); rw [H1.out])) | (go_at_call 94; (first | refine (rtruth0_any _).mono ?_ | refine (rtruth1_any _).mono ?_); rintro e w1 ⟨rfl, hb⟩; obtain ⟨hc, hz, hf⟩ := kept hb; (try simp only [World.size_drew, World.cell?_drew, World.frozen?_drew] at hc hz hf); have hz1 : w.heap.size + 1 < w1.heap.size := hz _ (by first | (simp; done) | (simp; omega) | assumption)))
  (refine bodyPost_ret (v := .tuple #[(tru 0).v, .int .i64 0]) (by simp [results, Tryd.results93, go_sem, *]) rfl ⟨by (rfl), ?_⟩; (repeat (first | exact ext_refl _ | assumption | (refine ext_alloc ?_ _) | (refine ext_drewN ?_ _) | refine ext_drew ?_ | (refine ext_set (by first | (simp; done) | (simp; omega)) _ ?_) | (refine ext_trans ?_ (by assumption)))))

theorem rnot_any (x : Val) (w : World) :
    Calls Tryd.prog 93 #[x.v] w fun e w' => e = .returned (.tuple #[(notS x).1.v, .int .i64 (notS x).2]) ∧ Below w.heap.size w w' := by
  cases h1 : x.nullOr 2
  · rw [show notS x = (nul, 1) by simp only [notS, h1]; rfl]
    exact rnot_no x w h1
  rcases truths h1 with rfl | rfl | rfl
  · exact rnot_nul w
  · exact rnot_tru0 w
  · exact rnot_tru1 w

end Go.Proofs.YthdnbcdcfaocmaaDoor
