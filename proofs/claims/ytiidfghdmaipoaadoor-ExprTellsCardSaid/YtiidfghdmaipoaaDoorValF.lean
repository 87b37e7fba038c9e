/- What AND, OR, NOT answer: package value and the document's own answer. -/
import Derived.Test.YtiidfghdmaipoaaDoorValA
import Derived.Deep.RegionWith
namespace Go.Proofs.YtiidfghdmaipoaaDoor
open Go.RowKit

theorem empty_toList : (⟨#[]⟩ : ByteArray).toList = [] := by decide +kernel

theorem bytes_empty (s : ByteArray) (h : s.toList.isEmpty = true) : s = ⟨#[]⟩ := by
  obtain ⟨d⟩ := s
  rw [ByteArray.toList_eq] at h
  congr 1
  simpa using h

/-- Who is right, and NULL or a truth: there are three. -/
theorem truths {x : Val} (h : x.nullOr 2 = true) : x = nul ∨ x = tru 0 ∨ x = tru 1 := by
  obtain ⟨k, n, s⟩ := x
  simp only [Val.nullOr, Bool.and_eq_true, Bool.or_eq_true, beq_iff_eq] at h
  obtain ⟨hr, rfl | rfl⟩ := h
  · simp only [Val.right, if_pos, Bool.and_eq_true, beq_iff_eq] at hr
    obtain ⟨rfl, hs⟩ := hr
    rw [bytes_empty s hs]
    exact .inl rfl
  · simp [Val.right] at hr
    obtain ⟨rfl | rfl, hs⟩ := hr
    · rw [bytes_empty s (by simpa using hs)]
      exact .inr (.inl rfl)
    · rw [bytes_empty s (by simpa using hs)]
      exact .inr (.inr rfl)

/-- What And (d = 0, o = 1) and Or (d = 1, o = 0) answer. -/
def conn (d o : Int) (x y : Val) : Val × Int :=
  if x.nullOr 2 && y.nullOr 2 then
    if (x.k == 2 && x.n == d) || (y.k == 2 && y.n == d) then (tru d, 0) else if x.k == 0 || y.k == 0 then (nul, 0) else (tru o, 0)
  else (nul, 1)
def notS (x : Val) : Val × Int := if x.nullOr 2 then (if x.k == 0 then (nul, 0) else (tru (1 - x.n), 0)) else (nul, 1)

theorem nul_nullOr (kd : Int) : Val.nullOr kd nul = true := by simp [Val.nullOr, Val.right]
theorem tru0_nullOr : Val.nullOr 2 (tru 0) = true := by simp [Val.nullOr, Val.right]
theorem tru1_nullOr : Val.nullOr 2 (tru 1) = true := by simp [Val.nullOr, Val.right]
theorem conn_no (d o : Int) (x y : Val) (h : (x.nullOr 2 && y.nullOr 2) = false) : conn d o x y = (nul, 1) := by simp only [conn, h]; rfl

set_option maxHeartbeats 400000 in
theorem connect_no0 (x y : Val) (w : World) (h : x.nullOr 2 = false ∨ x.nullOr 2 = true ∧ y.nullOr 2 = false) :
    Calls Tryd.prog 73 #[(tru 0).v, (tru 1).v, x.v, y.v] w fun e w' => e = .returned (.tuple #[nul.v, .int .i64 1]) ∧ Below w.heap.size w w' := by
  obtain ⟨k, n, s⟩ := x
  obtain ⟨l, m, t⟩ := y
  rcases h with h1 | ⟨h1, h2⟩
  · have H1 := Lib.hid h1
    clear h1
    go_enter Tryd.func73, Tryd.ntmps73
    go_wp2_with (first | (go_at_call 75; go_must (refine (nullOr_any _ ⟨_, _, _⟩ _).mono ?_; rintro e w1 ⟨rfl, hb⟩; obtain ⟨hc, hz, hf⟩ := kept hb; have hz4 : w.heap.size + 1 + 1 + 1 + 1 < w1.heap.size := hz _ (by first | (simp; done) | (simp; omega) | assumption); have hz3 : w.heap.size + 1 + 1 + 1 < w1.heap.size := hz _ (by first | (simp; done) | (simp; omega) | assumption); have hz2 : w.heap.size + 1 + 1 < w1.heap.size := hz _ (by first | (simp; done) | (simp; omega) | assumption); have hz1 : w.heap.size + 1 < w1.heap.size := hz _ (by first | (simp; done) | (simp; omega) | assumption); have hz0 : w.heap.size < w1.heap.size := hz _ (by first | (simp; done) | (simp; omega) | assumption); rw [H1.out])))
    (refine bodyPost_ret (v := .tuple #[nul.v, .int .i64 1]) (by simp [results, Tryd.results73, go_sem, *]) rfl ⟨by (rfl), ?_⟩; (repeat (first | exact ext_refl _ | assumption | (refine ext_alloc ?_ _) | (refine ext_drewN ?_ _) | refine ext_drew ?_ | (refine ext_set (by first | (simp; done) | (simp; omega)) _ ?_) | (refine ext_trans ?_ (by assumption)))))
  · have H1 := Lib.hid h1
    have H2 := Lib.hid h2
    clear h1 h2
    go_enter Tryd.func73, Tryd.ntmps73
    go_wp2_with (first | (go_at_call 75; go_must (refine (nullOr_any _ ⟨_, _, _⟩ _).mono ?_; rintro e w1 ⟨rfl, hb⟩; obtain ⟨hc, hz, hf⟩ := kept hb; have hz4 : w.heap.size + 1 + 1 + 1 + 1 < w1.heap.size := hz _ (by first | (simp; done) | (simp; omega) | assumption); have hz3 : w.heap.size + 1 + 1 + 1 < w1.heap.size := hz _ (by first | (simp; done) | (simp; omega) | assumption); have hz2 : w.heap.size + 1 + 1 < w1.heap.size := hz _ (by first | (simp; done) | (simp; omega) | assumption); have hz1 : w.heap.size + 1 < w1.heap.size := hz _ (by first | (simp; done) | (simp; omega) | assumption); have hz0 : w.heap.size < w1.heap.size := hz _ (by first | (simp; done) | (simp; omega) | assumption); first | rw [H1.out] | rw [H2.out])))
    (refine bodyPost_ret (v := .tuple #[nul.v, .int .i64 1]) (by simp [results, Tryd.results73, go_sem, *]) rfl ⟨by (rfl), ?_⟩; (repeat (first | exact ext_refl _ | assumption | (refine ext_alloc ?_ _) | (refine ext_drewN ?_ _) | refine ext_drew ?_ | (refine ext_set (by first | (simp; done) | (simp; omega)) _ ?_) | (refine ext_trans ?_ (by assumption)))))

set_option maxHeartbeats 400000 in
theorem connect0_nul_nul (w : World) : Calls Tryd.prog 73 #[(tru 0).v, (tru 1).v, nul.v, nul.v] w fun e w' => e = .returned (.tuple #[(conn 0 1 nul nul).1.v, .int .i64 (conn 0 1 nul nul).2]) ∧ Below w.heap.size w w' := by
  rw [show conn 0 1 nul nul = (nul, 0) by simp [conn, Val.nullOr, Val.right]]
  go_enter Tryd.func73, Tryd.ntmps73
  go_wp2_with (first | (go_at_call 75; go_must (refine (nullOr_any _ ⟨_, _, _⟩ _).mono ?_; rintro e w1 ⟨rfl, hb⟩; obtain ⟨hc, hz, hf⟩ := kept hb; have hz4 : w.heap.size + 1 + 1 + 1 + 1 < w1.heap.size := hz _ (by first | (simp; done) | (simp; omega) | assumption); have hz3 : w.heap.size + 1 + 1 + 1 < w1.heap.size := hz _ (by first | (simp; done) | (simp; omega) | assumption); have hz2 : w.heap.size + 1 + 1 < w1.heap.size := hz _ (by first | (simp; done) | (simp; omega) | assumption); have hz1 : w.heap.size + 1 < w1.heap.size := hz _ (by first | (simp; done) | (simp; omega) | assumption); have hz0 : w.heap.size < w1.heap.size := hz _ (by first | (simp; done) | (simp; omega) | assumption); first | rw [nul_nullOr] | rw [tru0_nullOr] | rw [tru1_nullOr])) | (go_at_call 76; go_must (refine (isNull_any ⟨_, _, _⟩ _).mono ?_; rintro e w1 ⟨rfl, hb⟩; obtain ⟨hc, hz, hf⟩ := kept hb; have hz4 : w.heap.size + 1 + 1 + 1 + 1 < w1.heap.size := hz _ (by first | (simp; done) | (simp; omega) | assumption); have hz3 : w.heap.size + 1 + 1 + 1 < w1.heap.size := hz _ (by first | (simp; done) | (simp; omega) | assumption); have hz2 : w.heap.size + 1 + 1 < w1.heap.size := hz _ (by first | (simp; done) | (simp; omega) | assumption); have hz1 : w.heap.size + 1 < w1.heap.size := hz _ (by first | (simp; done) | (simp; omega) | assumption); have hz0 : w.heap.size < w1.heap.size := hz _ (by first | (simp; done) | (simp; omega) | assumption))))
  (refine bodyPost_ret (v := .tuple #[nul.v, .int .i64 0]) (by simp [results, Tryd.results73, go_sem, *]) rfl ⟨by (rfl), ?_⟩; (repeat (first | exact ext_refl _ | assumption | (refine ext_alloc ?_ _) | (refine ext_drewN ?_ _) | refine ext_drew ?_ | (refine ext_set (by first | (simp; done) | (simp; omega)) _ ?_) | (refine ext_trans ?_ (by assumption)))))

set_option maxHeartbeats 400000 in
theorem connect0_nul_tru0 (w : World) : Calls Tryd.prog 73 #[(tru 0).v, (tru 1).v, nul.v, (tru 0).v] w fun e w' => e = .returned (.tuple #[(conn 0 1 nul (tru 0)).1.v, .int .i64 (conn 0 1 nul (tru 0)).2]) ∧ Below w.heap.size w w' := by
  rw [show conn 0 1 nul (tru 0) = ((tru 0), 0) by simp [conn, Val.nullOr, Val.right]]
  go_enter Tryd.func73, Tryd.ntmps73
  go_wp2_with (first | (go_at_call 75; go_must (refine (nullOr_any _ ⟨_, _, _⟩ _).mono ?_; rintro e w1 ⟨rfl, hb⟩; obtain ⟨hc, hz, hf⟩ := kept hb; have hz4 : w.heap.size + 1 + 1 + 1 + 1 < w1.heap.size := hz _ (by first | (simp; done) | (simp; omega) | assumption); have hz3 : w.heap.size + 1 + 1 + 1 < w1.heap.size := hz _ (by first | (simp; done) | (simp; omega) | assumption); have hz2 : w.heap.size + 1 + 1 < w1.heap.size := hz _ (by first | (simp; done) | (simp; omega) | assumption); have hz1 : w.heap.size + 1 < w1.heap.size := hz _ (by first | (simp; done) | (simp; omega) | assumption); have hz0 : w.heap.size < w1.heap.size := hz _ (by first | (simp; done) | (simp; omega) | assumption); first | rw [nul_nullOr] | rw [tru0_nullOr] | rw [tru1_nullOr])) | (go_at_call 76; go_must (refine (isNull_any ⟨_, _, _⟩ _).mono ?_; rintro e w1 ⟨rfl, hb⟩; obtain ⟨hc, hz, hf⟩ := kept hb; have hz4 : w.heap.size + 1 + 1 + 1 + 1 < w1.heap.size := hz _ (by first | (simp; done) | (simp; omega) | assumption); have hz3 : w.heap.size + 1 + 1 + 1 < w1.heap.size := hz _ (by first | (simp; done) | (simp; omega) | assumption); have hz2 : w.heap.size + 1 + 1 < w1.heap.size := hz _ (by first | (simp; done) | (simp; omega) | assumption); have hz1 : w.heap.size + 1 < w1.heap.size := hz _ (by first | (simp; done) | (simp; omega) | assumption); have hz0 : w.heap.size < w1.heap.size := hz _ (by first | (simp; done) | (simp; omega) | assumption))))
  (refine bodyPost_ret (v := .tuple #[(tru 0).v, .int .i64 0]) (by simp [results, Tryd.results73, go_sem, *]) rfl ⟨by (rfl), ?_⟩; (repeat (first | exact ext_refl _ | assumption | (refine ext_alloc ?_ _) | (refine ext_drewN ?_ _) | refine ext_drew ?_ | (refine ext_set (by first | (simp; done) | (simp; omega)) _ ?_) | (refine ext_trans ?_ (by assumption)))))

set_option maxHeartbeats 400000 in
theorem connect0_nul_tru1 (w : World) : Calls Tryd.prog 73 #[(tru 0).v, (tru 1).v, nul.v, (tru 1).v] w fun e w' => e = .returned (.tuple #[(conn 0 1 nul (tru 1)).1.v, .int .i64 (conn 0 1 nul (tru 1)).2]) ∧ Below w.heap.size w w' := by
  rw [show conn 0 1 nul (tru 1) = (nul, 0) by simp [conn, Val.nullOr, Val.right]]
  go_enter Tryd.func73, Tryd.ntmps73
  go_wp2_with (first | (go_at_call 75; go_must (refine (nullOr_any _ ⟨_, _, _⟩ _).mono ?_; rintro e w1 ⟨rfl, hb⟩; obtain ⟨hc, hz, hf⟩ := kept hb; have hz4 : w.heap.size + 1 + 1 + 1 + 1 < w1.heap.size := hz _ (by first | (simp; done) | (simp; omega) | assumption); have hz3 : w.heap.size + 1 + 1 + 1 < w1.heap.size := hz _ (by first | (simp; done) | (simp; omega) | assumption); have hz2 : w.heap.size + 1 + 1 < w1.heap.size := hz _ (by first | (simp; done) | (simp; omega) | assumption); have hz1 : w.heap.size + 1 < w1.heap.size := hz _ (by first | (simp; done) | (simp; omega) | assumption); have hz0 : w.heap.size < w1.heap.size := hz _ (by first | (simp; done) | (simp; omega) | assumption); first | rw [nul_nullOr] | rw [tru0_nullOr] | rw [tru1_nullOr])) | (go_at_call 76; go_must (refine (isNull_any ⟨_, _, _⟩ _).mono ?_; rintro e w1 ⟨rfl, hb⟩; obtain ⟨hc, hz, hf⟩ := kept hb; have hz4 : w.heap.size + 1 + 1 + 1 + 1 < w1.heap.size := hz _ (by first | (simp; done) | (simp; omega) | assumption); have hz3 : w.heap.size + 1 + 1 + 1 < w1.heap.size := hz _ (by first | (simp; done) | (simp; omega) | assumption); have hz2 : w.heap.size + 1 + 1 < w1.heap.size := hz _ (by first | (simp; done) | (simp; omega) | assumption); have hz1 : w.heap.size + 1 < w1.heap.size := hz _ (by first | (simp; done) | (simp; omega) | assumption); have hz0 : w.heap.size < w1.heap.size := hz _ (by first | (simp; done) | (simp; omega) | assumption))))
  (refine bodyPost_ret (v := .tuple #[nul.v, .int .i64 0]) (by simp [results, Tryd.results73, go_sem, *]) rfl ⟨by (rfl), ?_⟩; (repeat (first | exact ext_refl _ | assumption | (refine ext_alloc ?_ _) | (refine ext_drewN ?_ _) | refine ext_drew ?_ | (refine ext_set (by first | (simp; done) | (simp; omega)) _ ?_) | (refine ext_trans ?_ (by assumption)))))

set_option maxHeartbeats 400000 in
theorem connect0_tru0_nul (w : World) : Calls Tryd.prog 73 #[(tru 0).v, (tru 1).v, (tru 0).v, nul.v] w fun e w' => e = .returned (.tuple #[(conn 0 1 (tru 0) nul).1.v, .int .i64 (conn 0 1 (tru 0) nul).2]) ∧ Below w.heap.size w w' := by
  rw [show conn 0 1 (tru 0) nul = ((tru 0), 0) by simp [conn, Val.nullOr, Val.right]]
  go_enter Tryd.func73, Tryd.ntmps73
  go_wp2_with (first | (go_at_call 75; go_must (refine (nullOr_any _ ⟨_, _, _⟩ _).mono ?_; rintro e w1 ⟨rfl, hb⟩; obtain ⟨hc, hz, hf⟩ := kept hb; have hz4 : w.heap.size + 1 + 1 + 1 + 1 < w1.heap.size := hz _ (by first | (simp; done) | (simp; omega) | assumption); have hz3 : w.heap.size + 1 + 1 + 1 < w1.heap.size := hz _ (by first | (simp; done) | (simp; omega) | assumption); have hz2 : w.heap.size + 1 + 1 < w1.heap.size := hz _ (by first | (simp; done) | (simp; omega) | assumption); have hz1 : w.heap.size + 1 < w1.heap.size := hz _ (by first | (simp; done) | (simp; omega) | assumption); have hz0 : w.heap.size < w1.heap.size := hz _ (by first | (simp; done) | (simp; omega) | assumption); first | rw [nul_nullOr] | rw [tru0_nullOr] | rw [tru1_nullOr])) | (go_at_call 76; go_must (refine (isNull_any ⟨_, _, _⟩ _).mono ?_; rintro e w1 ⟨rfl, hb⟩; obtain ⟨hc, hz, hf⟩ := kept hb; have hz4 : w.heap.size + 1 + 1 + 1 + 1 < w1.heap.size := hz _ (by first | (simp; done) | (simp; omega) | assumption); have hz3 : w.heap.size + 1 + 1 + 1 < w1.heap.size := hz _ (by first | (simp; done) | (simp; omega) | assumption); have hz2 : w.heap.size + 1 + 1 < w1.heap.size := hz _ (by first | (simp; done) | (simp; omega) | assumption); have hz1 : w.heap.size + 1 < w1.heap.size := hz _ (by first | (simp; done) | (simp; omega) | assumption); have hz0 : w.heap.size < w1.heap.size := hz _ (by first | (simp; done) | (simp; omega) | assumption))))
  (refine bodyPost_ret (v := .tuple #[(tru 0).v, .int .i64 0]) (by simp [results, Tryd.results73, go_sem, *]) rfl ⟨by (rfl), ?_⟩; (repeat (first | exact ext_refl _ | assumption | (refine ext_alloc ?_ _) | (refine ext_drewN ?_ _) | refine ext_drew ?_ | (refine ext_set (by first | (simp; done) | (simp; omega)) _ ?_) | (refine ext_trans ?_ (by assumption)))))

set_option maxHeartbeats 400000 in
theorem connect0_tru0_tru0 (w : World) : Calls Tryd.prog 73 #[(tru 0).v, (tru 1).v, (tru 0).v, (tru 0).v] w fun e w' => e = .returned (.tuple #[(conn 0 1 (tru 0) (tru 0)).1.v, .int .i64 (conn 0 1 (tru 0) (tru 0)).2]) ∧ Below w.heap.size w w' := by
  rw [show conn 0 1 (tru 0) (tru 0) = ((tru 0), 0) by simp [conn, Val.nullOr, Val.right]]
  go_enter Tryd.func73, Tryd.ntmps73
  go_wp2_with (first | (go_at_call 75; go_must (refine (nullOr_any _ ⟨_, _, _⟩ _).mono ?_; rintro e w1 ⟨rfl, hb⟩; obtain ⟨hc, hz, hf⟩ := kept hb; have hz4 : w.heap.size + 1 + 1 + 1 + 1 < w1.heap.size := hz _ (by first | (simp; done) | (simp; omega) | assumption); have hz3 : w.heap.size + 1 + 1 + 1 < w1.heap.size := hz _ (by first | (simp; done) | (simp; omega) | assumption); have hz2 : w.heap.size + 1 + 1 < w1.heap.size := hz _ (by first | (simp; done) | (simp; omega) | assumption); have hz1 : w.heap.size + 1 < w1.heap.size := hz _ (by first | (simp; done) | (simp; omega) | assumption); have hz0 : w.heap.size < w1.heap.size := hz _ (by first | (simp; done) | (simp; omega) | assumption); first | rw [nul_nullOr] | rw [tru0_nullOr] | rw [tru1_nullOr])) | (go_at_call 76; go_must (refine (isNull_any ⟨_, _, _⟩ _).mono ?_; rintro e w1 ⟨rfl, hb⟩; obtain ⟨hc, hz, hf⟩ := kept hb; have hz4 : w.heap.size + 1 + 1 + 1 + 1 < w1.heap.size := hz _ (by first | (simp; done) | (simp; omega) | assumption); have hz3 : w.heap.size + 1 + 1 + 1 < w1.heap.size := hz _ (by first | (simp; done) | (simp; omega) | assumption); have hz2 : w.heap.size + 1 + 1 < w1.heap.size := hz _ (by first | (simp; done) | (simp; omega) | assumption); have hz1 : w.heap.size + 1 < w1.heap.size := hz _ (by first | (simp; done) | (simp; omega) | assumption); have hz0 : w.heap.size < w1.heap.size := hz _ (by first | (simp; done) | (simp; omega) | assumption))))
  (refine bodyPost_ret (v := .tuple #[(tru 0).v, .int .i64 0]) (by simp [results, Tryd.results73, go_sem, *]) rfl ⟨by (rfl), ?_⟩; (repeat (first | exact ext_refl _ | assumption | (refine ext_alloc ?_ _) | (refine ext_drewN ?_ _) | refine ext_drew ?_ | (refine ext_set (by first | (simp; done) | (simp; omega)) _ ?_) | (refine ext_trans ?_ (by assumption)))))

set_option maxHeartbeats 400000 in
theorem connect0_tru0_tru1 (w : World) : Calls Tryd.prog 73 #[(tru 0).v, (tru 1).v, (tru 0).v, (tru 1).v] w fun e w' => e = .returned (.tuple #[(conn 0 1 (tru 0) (tru 1)).1.v, .int .i64 (conn 0 1 (tru 0) (tru 1)).2]) ∧ Below w.heap.size w w' := by
  rw [show conn 0 1 (tru 0) (tru 1) = ((tru 0), 0) by simp [conn, Val.nullOr, Val.right]]
  go_enter Tryd.func73, Tryd.ntmps73
  go_wp2_with (first | (go_at_call 75; go_must (refine (nullOr_any _ ⟨_, _, _⟩ _).mono ?_; rintro e w1 ⟨rfl, hb⟩; obtain ⟨hc, hz, hf⟩ := kept hb; have hz4 : w.heap.size + 1 + 1 + 1 + 1 < w1.heap.size := hz _ (by first | (simp; done) | (simp; omega) | assumption); have hz3 : w.heap.size + 1 + 1 + 1 < w1.heap.size := hz _ (by first | (simp; done) | (simp; omega) | assumption); have hz2 : w.heap.size + 1 + 1 < w1.heap.size := hz _ (by first | (simp; done) | (simp; omega) | assumption); have hz1 : w.heap.size + 1 < w1.heap.size := hz _ (by first | (simp; done) | (simp; omega) | assumption); have hz0 : w.heap.size < w1.heap.size := hz _ (by first | (simp; done) | (simp; omega) | assumption); first | rw [nul_nullOr] | rw [tru0_nullOr] | rw [tru1_nullOr])) | (go_at_call 76; go_must (refine (isNull_any ⟨_, _, _⟩ _).mono ?_; rintro e w1 ⟨rfl, hb⟩; obtain ⟨hc, hz, hf⟩ := kept hb; have hz4 : w.heap.size + 1 + 1 + 1 + 1 < w1.heap.size := hz _ (by first | (simp; done) | (simp; omega) | assumption); have hz3 : w.heap.size + 1 + 1 + 1 < w1.heap.size := hz _ (by first | (simp; done) | (simp; omega) | assumption); have hz2 : w.heap.size + 1 + 1 < w1.heap.size := hz _ (by first | (simp; done) | (simp; omega) | assumption); have hz1 : w.heap.size + 1 < w1.heap.size := hz _ (by first | (simp; done) | (simp; omega) | assumption); have hz0 : w.heap.size < w1.heap.size := hz _ (by first | (simp; done) | (simp; omega) | assumption))))
  (refine bodyPost_ret (v := .tuple #[(tru 0).v, .int .i64 0]) (by simp [results, Tryd.results73, go_sem, *]) rfl ⟨by (rfl), ?_⟩; (repeat (first | exact ext_refl _ | assumption | (refine ext_alloc ?_ _) | (refine ext_drewN ?_ _) | refine ext_drew ?_ | (refine ext_set (by first | (simp; done) | (simp; omega)) _ ?_) | (refine ext_trans ?_ (by assumption)))))

set_option maxHeartbeats 400000 in
theorem connect0_tru1_nul (w : World) : Calls Tryd.prog 73 #[(tru 0).v, (tru 1).v, (tru 1).v, nul.v] w fun e w' => e = .returned (.tuple #[(conn 0 1 (tru 1) nul).1.v, .int .i64 (conn 0 1 (tru 1) nul).2]) ∧ Below w.heap.size w w' := by
  rw [show conn 0 1 (tru 1) nul = (nul, 0) by simp [conn, Val.nullOr, Val.right]]
  go_enter Tryd.func73, Tryd.ntmps73
  go_wp2_with (first | (go_at_call 75; go_must (refine (nullOr_any _ ⟨_, _, _⟩ _).mono ?_; rintro e w1 ⟨rfl, hb⟩; obtain ⟨hc, hz, hf⟩ := kept hb; have hz4 : w.heap.size + 1 + 1 + 1 + 1 < w1.heap.size := hz _ (by first | (simp; done) | (simp; omega) | assumption); have hz3 : w.heap.size + 1 + 1 + 1 < w1.heap.size := hz _ (by first | (simp; done) | (simp; omega) | assumption); have hz2 : w.heap.size + 1 + 1 < w1.heap.size := hz _ (by first | (simp; done) | (simp; omega) | assumption); have hz1 : w.heap.size + 1 < w1.heap.size := hz _ (by first | (simp; done) | (simp; omega) | assumption); have hz0 : w.heap.size < w1.heap.size := hz _ (by first | (simp; done) | (simp; omega) | assumption); first | rw [nul_nullOr] | rw [tru0_nullOr] | rw [tru1_nullOr])) | (go_at_call 76; go_must (refine (isNull_any ⟨_, _, _⟩ _).mono ?_; rintro e w1 ⟨rfl, hb⟩; obtain ⟨hc, hz, hf⟩ := kept hb; have hz4 : w.heap.size + 1 + 1 + 1 + 1 < w1.heap.size := hz _ (by first | (simp; done) | (simp; omega) | assumption); have hz3 : w.heap.size + 1 + 1 + 1 < w1.heap.size := hz _ (by first | (simp; done) | (simp; omega) | assumption); have hz2 : w.heap.size + 1 + 1 < w1.heap.size := hz _ (by first | (simp; done) | (simp; omega) | assumption); have hz1 : w.heap.size + 1 < w1.heap.size := hz _ (by first | (simp; done) | (simp; omega) | assumption); have hz0 : w.heap.size < w1.heap.size := hz _ (by first | (simp; done) | (simp; omega) | assumption))))
  (refine bodyPost_ret (v := .tuple #[nul.v, .int .i64 0]) (by simp [results, Tryd.results73, go_sem, *]) rfl ⟨by (rfl), ?_⟩; (repeat (first | exact ext_refl _ | assumption | (refine ext_alloc ?_ _) | (refine ext_drewN ?_ _) | refine ext_drew ?_ | (refine ext_set (by first | (simp; done) | (simp; omega)) _ ?_) | (refine ext_trans ?_ (by assumption)))))

set_option maxHeartbeats 400000 in
theorem connect0_tru1_tru0 (w : World) : Calls Tryd.prog 73 #[(tru 0).v, (tru 1).v, (tru 1).v, (tru 0).v] w fun e w' => e = .returned (.tuple #[(conn 0 1 (tru 1) (tru 0)).1.v, .int .i64 (conn 0 1 (tru 1) (tru 0)).2]) ∧ Below w.heap.size w w' := by
  rw [show conn 0 1 (tru 1) (tru 0) = ((tru 0), 0) by simp [conn, Val.nullOr, Val.right]]
  go_enter Tryd.func73, Tryd.ntmps73
  go_wp2_with (first | (go_at_call 75; go_must (refine (nullOr_any _ ⟨_, _, _⟩ _).mono ?_; rintro e w1 ⟨rfl, hb⟩; obtain ⟨hc, hz, hf⟩ := kept hb; have hz4 : w.heap.size + 1 + 1 + 1 + 1 < w1.heap.size := hz _ (by first | (simp; done) | (simp; omega) | assumption); have hz3 : w.heap.size + 1 + 1 + 1 < w1.heap.size := hz _ (by first | (simp; done) | (simp; omega) | assumption); have hz2 : w.heap.size + 1 + 1 < w1.heap.size := hz _ (by first | (simp; done) | (simp; omega) | assumption); have hz1 : w.heap.size + 1 < w1.heap.size := hz _ (by first | (simp; done) | (simp; omega) | assumption); have hz0 : w.heap.size < w1.heap.size := hz _ (by first | (simp; done) | (simp; omega) | assumption); first | rw [nul_nullOr] | rw [tru0_nullOr] | rw [tru1_nullOr])) | (go_at_call 76; go_must (refine (isNull_any ⟨_, _, _⟩ _).mono ?_; rintro e w1 ⟨rfl, hb⟩; obtain ⟨hc, hz, hf⟩ := kept hb; have hz4 : w.heap.size + 1 + 1 + 1 + 1 < w1.heap.size := hz _ (by first | (simp; done) | (simp; omega) | assumption); have hz3 : w.heap.size + 1 + 1 + 1 < w1.heap.size := hz _ (by first | (simp; done) | (simp; omega) | assumption); have hz2 : w.heap.size + 1 + 1 < w1.heap.size := hz _ (by first | (simp; done) | (simp; omega) | assumption); have hz1 : w.heap.size + 1 < w1.heap.size := hz _ (by first | (simp; done) | (simp; omega) | assumption); have hz0 : w.heap.size < w1.heap.size := hz _ (by first | (simp; done) | (simp; omega) | assumption))))
  (refine bodyPost_ret (v := .tuple #[(tru 0).v, .int .i64 0]) (by simp [results, Tryd.results73, go_sem, *]) rfl ⟨by (rfl), ?_⟩; (repeat (first | exact ext_refl _ | assumption | (refine ext_alloc ?_ _) | (refine ext_drewN ?_ _) | refine ext_drew ?_ | (refine ext_set (by first | (simp; done) | (simp; omega)) _ ?_) | (refine ext_trans ?_ (by assumption)))))

set_option maxHeartbeats 400000 in
theorem connect0_tru1_tru1 (w : World) : Calls Tryd.prog 73 #[(tru 0).v, (tru 1).v, (tru 1).v, (tru 1).v] w fun e w' => e = .returned (.tuple #[(conn 0 1 (tru 1) (tru 1)).1.v, .int .i64 (conn 0 1 (tru 1) (tru 1)).2]) ∧ Below w.heap.size w w' := by
  rw [show conn 0 1 (tru 1) (tru 1) = ((tru 1), 0) by simp [conn, Val.nullOr, Val.right]]
  go_enter Tryd.func73, Tryd.ntmps73
  go_wp2_with (first | (go_at_call 75; go_must (refine (nullOr_any _ ⟨_, _, _⟩ _).mono ?_; rintro e w1 ⟨rfl, hb⟩; obtain ⟨hc, hz, hf⟩ := kept hb; have hz4 : w.heap.size + 1 + 1 + 1 + 1 < w1.heap.size := hz _ (by first | (simp; done) | (simp; omega) | assumption); have hz3 : w.heap.size + 1 + 1 + 1 < w1.heap.size := hz _ (by first | (simp; done) | (simp; omega) | assumption); have hz2 : w.heap.size + 1 + 1 < w1.heap.size := hz _ (by first | (simp; done) | (simp; omega) | assumption); have hz1 : w.heap.size + 1 < w1.heap.size := hz _ (by first | (simp; done) | (simp; omega) | assumption); have hz0 : w.heap.size < w1.heap.size := hz _ (by first | (simp; done) | (simp; omega) | assumption); first | rw [nul_nullOr] | rw [tru0_nullOr] | rw [tru1_nullOr])) | (go_at_call 76; go_must (refine (isNull_any ⟨_, _, _⟩ _).mono ?_; rintro e w1 ⟨rfl, hb⟩; obtain ⟨hc, hz, hf⟩ := kept hb; have hz4 : w.heap.size + 1 + 1 + 1 + 1 < w1.heap.size := hz _ (by first | (simp; done) | (simp; omega) | assumption); have hz3 : w.heap.size + 1 + 1 + 1 < w1.heap.size := hz _ (by first | (simp; done) | (simp; omega) | assumption); have hz2 : w.heap.size + 1 + 1 < w1.heap.size := hz _ (by first | (simp; done) | (simp; omega) | assumption); have hz1 : w.heap.size + 1 < w1.heap.size := hz _ (by first | (simp; done) | (simp; omega) | assumption); have hz0 : w.heap.size < w1.heap.size := hz _ (by first | (simp; done) | (simp; omega) | assumption))))
  (refine bodyPost_ret (v := .tuple #[(tru 1).v, .int .i64 0]) (by simp [results, Tryd.results73, go_sem, *]) rfl ⟨by (rfl), ?_⟩; (repeat (first | exact ext_refl _ | assumption | (refine ext_alloc ?_ _) | (refine ext_drewN ?_ _) | refine ext_drew ?_ | (refine ext_set (by first | (simp; done) | (simp; omega)) _ ?_) | (refine ext_trans ?_ (by assumption)))))

theorem connect0_any (x y : Val) (w : World) :
    Calls Tryd.prog 73 #[(tru 0).v, (tru 1).v, x.v, y.v] w fun e w' => e = .returned (.tuple #[(conn 0 1 x y).1.v, .int .i64 (conn 0 1 x y).2]) ∧ Below w.heap.size w w' := by
  cases h1 : x.nullOr 2
  · rw [conn_no 0 1 x y (by rw [h1]; rfl)]
    exact connect_no0 x y w (.inl h1)
  cases h2 : y.nullOr 2
  · rw [conn_no 0 1 x y (by rw [h1, h2]; rfl)]
    exact connect_no0 x y w (.inr ⟨h1, h2⟩)
  rcases truths h1 with rfl | rfl | rfl <;> rcases truths h2 with rfl | rfl | rfl
  · exact connect0_nul_nul w
  · exact connect0_nul_tru0 w
  · exact connect0_nul_tru1 w
  · exact connect0_tru0_nul w
  · exact connect0_tru0_tru0 w
  · exact connect0_tru0_tru1 w
  · exact connect0_tru1_nul w
  · exact connect0_tru1_tru0 w
  · exact connect0_tru1_tru1 w

set_option maxHeartbeats 400000 in
theorem connect_no1 (x y : Val) (w : World) (h : x.nullOr 2 = false ∨ x.nullOr 2 = true ∧ y.nullOr 2 = false) :
    Calls Tryd.prog 73 #[(tru 1).v, (tru 0).v, x.v, y.v] w fun e w' => e = .returned (.tuple #[nul.v, .int .i64 1]) ∧ Below w.heap.size w w' := by
  obtain ⟨k, n, s⟩ := x
  obtain ⟨l, m, t⟩ := y
  rcases h with h1 | ⟨h1, h2⟩
  · have H1 := Lib.hid h1
    clear h1
    go_enter Tryd.func73, Tryd.ntmps73
    go_wp2_with (first | (go_at_call 75; go_must (refine (nullOr_any _ ⟨_, _, _⟩ _).mono ?_; rintro e w1 ⟨rfl, hb⟩; obtain ⟨hc, hz, hf⟩ := kept hb; have hz4 : w.heap.size + 1 + 1 + 1 + 1 < w1.heap.size := hz _ (by first | (simp; done) | (simp; omega) | assumption); have hz3 : w.heap.size + 1 + 1 + 1 < w1.heap.size := hz _ (by first | (simp; done) | (simp; omega) | assumption); have hz2 : w.heap.size + 1 + 1 < w1.heap.size := hz _ (by first | (simp; done) | (simp; omega) | assumption); have hz1 : w.heap.size + 1 < w1.heap.size := hz _ (by first | (simp; done) | (simp; omega) | assumption); have hz0 : w.heap.size < w1.heap.size := hz _ (by first | (simp; done) | (simp; omega) | assumption); rw [H1.out])))
    (refine bodyPost_ret (v := .tuple #[nul.v, .int .i64 1]) (by simp [results, Tryd.results73, go_sem, *]) rfl ⟨by (rfl), ?_⟩; (repeat (first | exact ext_refl _ | assumption | (refine ext_alloc ?_ _) | (refine ext_drewN ?_ _) | refine ext_drew ?_ | (refine ext_set (by first | (simp; done) | (simp; omega)) _ ?_) | (refine ext_trans ?_ (by assumption)))))
  · have H1 := Lib.hid h1
    have H2 := Lib.hid h2
    clear h1 h2
    go_enter Tryd.func73, Tryd.ntmps73
    go_wp2_with (first | (go_at_call 75; go_must (refine (nullOr_any _ ⟨_, _, _⟩ _).mono ?_; rintro e w1 ⟨rfl, hb⟩; obtain ⟨hc, hz, hf⟩ := kept hb; have hz4 : w.heap.size + 1 + 1 + 1 + 1 < w1.heap.size := hz _ (by first | (simp; done) | (simp; omega) | assumption); have hz3 : w.heap.size + 1 + 1 + 1 < w1.heap.size := hz _ (by first | (simp; done) | (simp; omega) | assumption); have hz2 : w.heap.size + 1 + 1 < w1.heap.size := hz _ (by first | (simp; done) | (simp; omega) | assumption); have hz1 : w.heap.size + 1 < w1.heap.size := hz _ (by first | (simp; done) | (simp; omega) | assumption); have hz0 : w.heap.size < w1.heap.size := hz _ (by first | (simp; done) | (simp; omega) | assumption); first | rw [H1.out] | rw [H2.out])))
    (refine bodyPost_ret (v := .tuple #[nul.v, .int .i64 1]) (by simp [results, Tryd.results73, go_sem, *]) rfl ⟨by (rfl), ?_⟩; (repeat (first | exact ext_refl _ | assumption | (refine ext_alloc ?_ _) | (refine ext_drewN ?_ _) | refine ext_drew ?_ | (refine ext_set (by first | (simp; done) | (simp; omega)) _ ?_) | (refine ext_trans ?_ (by assumption)))))

set_option maxHeartbeats 400000 in
theorem connect1_nul_nul (w : World) : Calls Tryd.prog 73 #[(tru 1).v, (tru 0).v, nul.v, nul.v] w fun e w' => e = .returned (.tuple #[(conn 1 0 nul nul).1.v, .int .i64 (conn 1 0 nul nul).2]) ∧ Below w.heap.size w w' := by
  rw [show conn 1 0 nul nul = (nul, 0) by simp [conn, Val.nullOr, Val.right]]
  go_enter Tryd.func73, Tryd.ntmps73
  go_wp2_with (first | (go_at_call 75; go_must (refine (nullOr_any _ ⟨_, _, _⟩ _).mono ?_; rintro e w1 ⟨rfl, hb⟩; obtain ⟨hc, hz, hf⟩ := kept hb; have hz4 : w.heap.size + 1 + 1 + 1 + 1 < w1.heap.size := hz _ (by first | (simp; done) | (simp; omega) | assumption); have hz3 : w.heap.size + 1 + 1 + 1 < w1.heap.size := hz _ (by first | (simp; done) | (simp; omega) | assumption); have hz2 : w.heap.size + 1 + 1 < w1.heap.size := hz _ (by first | (simp; done) | (simp; omega) | assumption); have hz1 : w.heap.size + 1 < w1.heap.size := hz _ (by first | (simp; done) | (simp; omega) | assumption); have hz0 : w.heap.size < w1.heap.size := hz _ (by first | (simp; done) | (simp; omega) | assumption); first | rw [nul_nullOr] | rw [tru0_nullOr] | rw [tru1_nullOr])) | (go_at_call 76; go_must (refine (isNull_any ⟨_, _, _⟩ _).mono ?_; rintro e w1 ⟨rfl, hb⟩; obtain ⟨hc, hz, hf⟩ := kept hb; have hz4 : w.heap.size + 1 + 1 + 1 + 1 < w1.heap.size := hz _ (by first | (simp; done) | (simp; omega) | assumption); have hz3 : w.heap.size + 1 + 1 + 1 < w1.heap.size := hz _ (by first | (simp; done) | (simp; omega) | assumption); have hz2 : w.heap.size + 1 + 1 < w1.heap.size := hz _ (by first | (simp; done) | (simp; omega) | assumption); have hz1 : w.heap.size + 1 < w1.heap.size := hz _ (by first | (simp; done) | (simp; omega) | assumption); have hz0 : w.heap.size < w1.heap.size := hz _ (by first | (simp; done) | (simp; omega) | assumption))))
  (refine bodyPost_ret (v := .tuple #[nul.v, .int .i64 0]) (by simp [results, Tryd.results73, go_sem, *]) rfl ⟨by (rfl), ?_⟩; (repeat (first | exact ext_refl _ | assumption | (refine ext_alloc ?_ _) | (refine ext_drewN ?_ _) | refine ext_drew ?_ | (refine ext_set (by first | (simp; done) | (simp; omega)) _ ?_) | (refine ext_trans ?_ (by assumption)))))

set_option maxHeartbeats 400000 in
theorem connect1_nul_tru0 (w : World) : Calls Tryd.prog 73 #[(tru 1).v, (tru 0).v, nul.v, (tru 0).v] w fun e w' => e = .returned (.tuple #[(conn 1 0 nul (tru 0)).1.v, .int .i64 (conn 1 0 nul (tru 0)).2]) ∧ Below w.heap.size w w' := by
  rw [show conn 1 0 nul (tru 0) = (nul, 0) by simp [conn, Val.nullOr, Val.right]]
  go_enter Tryd.func73, Tryd.ntmps73
  go_wp2_with (first | (go_at_call 75; go_must (refine (nullOr_any _ ⟨_, _, _⟩ _).mono ?_; rintro e w1 ⟨rfl, hb⟩; obtain ⟨hc, hz, hf⟩ := kept hb; have hz4 : w.heap.size + 1 + 1 + 1 + 1 < w1.heap.size := hz _ (by first | (simp; done) | (simp; omega) | assumption); have hz3 : w.heap.size + 1 + 1 + 1 < w1.heap.size := hz _ (by first | (simp; done) | (simp; omega) | assumption); have hz2 : w.heap.size + 1 + 1 < w1.heap.size := hz _ (by first | (simp; done) | (simp; omega) | assumption); have hz1 : w.heap.size + 1 < w1.heap.size := hz _ (by first | (simp; done) | (simp; omega) | assumption); have hz0 : w.heap.size < w1.heap.size := hz _ (by first | (simp; done) | (simp; omega) | assumption); first | rw [nul_nullOr] | rw [tru0_nullOr] | rw [tru1_nullOr])) | (go_at_call 76; go_must (refine (isNull_any ⟨_, _, _⟩ _).mono ?_; rintro e w1 ⟨rfl, hb⟩; obtain ⟨hc, hz, hf⟩ := kept hb; have hz4 : w.heap.size + 1 + 1 + 1 + 1 < w1.heap.size := hz _ (by first | (simp; done) | (simp; omega) | assumption); have hz3 : w.heap.size + 1 + 1 + 1 < w1.heap.size := hz _ (by first | (simp; done) | (simp; omega) | assumption); have hz2 : w.heap.size + 1 + 1 < w1.heap.size := hz _ (by first | (simp; done) | (simp; omega) | assumption); have hz1 : w.heap.size + 1 < w1.heap.size := hz _ (by first | (simp; done) | (simp; omega) | assumption); have hz0 : w.heap.size < w1.heap.size := hz _ (by first | (simp; done) | (simp; omega) | assumption))))
  (refine bodyPost_ret (v := .tuple #[nul.v, .int .i64 0]) (by simp [results, Tryd.results73, go_sem, *]) rfl ⟨by (rfl), ?_⟩; (repeat (first | exact ext_refl _ | assumption | (refine ext_alloc ?_ _) | (refine ext_drewN ?_ _) | refine ext_drew ?_ | (refine ext_set (by first | (simp; done) | (simp; omega)) _ ?_) | (refine ext_trans ?_ (by assumption)))))

set_option maxHeartbeats 400000 in
theorem connect1_nul_tru1 (w : World) : Calls Tryd.prog 73 #[(tru 1).v, (tru 0).v, nul.v, (tru 1).v] w fun e w' => e = .returned (.tuple #[(conn 1 0 nul (tru 1)).1.v, .int .i64 (conn 1 0 nul (tru 1)).2]) ∧ Below w.heap.size w w' := by
  rw [show conn 1 0 nul (tru 1) = ((tru 1), 0) by simp [conn, Val.nullOr, Val.right]]
  go_enter Tryd.func73, Tryd.ntmps73
  go_wp2_with (first | (go_at_call 75; go_must (refine (nullOr_any _ ⟨_, _, _⟩ _).mono ?_; rintro e w1 ⟨rfl, hb⟩; obtain ⟨hc, hz, hf⟩ := kept hb; have hz4 : w.heap.size + 1 + 1 + 1 + 1 < w1.heap.size := hz _ (by first | (simp; done) | (simp; omega) | assumption); have hz3 : w.heap.size + 1 + 1 + 1 < w1.heap.size := hz _ (by first | (simp; done) | (simp; omega) | assumption); have hz2 : w.heap.size + 1 + 1 < w1.heap.size := hz _ (by first | (simp; done) | (simp; omega) | assumption); have hz1 : w.heap.size + 1 < w1.heap.size := hz _ (by first | (simp; done) | (simp; omega) | assumption); have hz0 : w.heap.size < w1.heap.size := hz _ (by first | (simp; done) | (simp; omega) | assumption); first | rw [nul_nullOr] | rw [tru0_nullOr] | rw [tru1_nullOr])) | (go_at_call 76; go_must (refine (isNull_any ⟨_, _, _⟩ _).mono ?_; rintro e w1 ⟨rfl, hb⟩; obtain ⟨hc, hz, hf⟩ := kept hb; have hz4 : w.heap.size + 1 + 1 + 1 + 1 < w1.heap.size := hz _ (by first | (simp; done) | (simp; omega) | assumption); have hz3 : w.heap.size + 1 + 1 + 1 < w1.heap.size := hz _ (by first | (simp; done) | (simp; omega) | assumption); have hz2 : w.heap.size + 1 + 1 < w1.heap.size := hz _ (by first | (simp; done) | (simp; omega) | assumption); have hz1 : w.heap.size + 1 < w1.heap.size := hz _ (by first | (simp; done) | (simp; omega) | assumption); have hz0 : w.heap.size < w1.heap.size := hz _ (by first | (simp; done) | (simp; omega) | assumption))))
  (refine bodyPost_ret (v := .tuple #[(tru 1).v, .int .i64 0]) (by simp [results, Tryd.results73, go_sem, *]) rfl ⟨by (rfl), ?_⟩; (repeat (first | exact ext_refl _ | assumption | (refine ext_alloc ?_ _) | (refine ext_drewN ?_ _) | refine ext_drew ?_ | (refine ext_set (by first | (simp; done) | (simp; omega)) _ ?_) | (refine ext_trans ?_ (by assumption)))))

set_option maxHeartbeats 400000 in
theorem connect1_tru0_nul (w : World) : Calls Tryd.prog 73 #[(tru 1).v, (tru 0).v, (tru 0).v, nul.v] w fun e w' => e = .returned (.tuple #[(conn 1 0 (tru 0) nul).1.v, .int .i64 (conn 1 0 (tru 0) nul).2]) ∧ Below w.heap.size w w' := by
  rw [show conn 1 0 (tru 0) nul = (nul, 0) by simp [conn, Val.nullOr, Val.right]]
  go_enter Tryd.func73, Tryd.ntmps73
  go_wp2_with (first | (go_at_call 75; go_must (refine (nullOr_any _ ⟨_, _, _⟩ _).mono ?_; rintro e w1 ⟨rfl, hb⟩; obtain ⟨hc, hz, hf⟩ := kept hb; have hz4 : w.heap.size + 1 + 1 + 1 + 1 < w1.heap.size := hz _ (by first | (simp; done) | (simp; omega) | assumption); have hz3 : w.heap.size + 1 + 1 + 1 < w1.heap.size := hz _ (by first | (simp; done) | (simp; omega) | assumption); have hz2 : w.heap.size + 1 + 1 < w1.heap.size := hz _ (by first | (simp; done) | (simp; omega) | assumption); have hz1 : w.heap.size + 1 < w1.heap.size := hz _ (by first | (simp; done) | (simp; omega) | assumption); have hz0 : w.heap.size < w1.heap.size := hz _ (by first | (simp; done) | (simp; omega) | assumption); first | rw [nul_nullOr] | rw [tru0_nullOr] | rw [tru1_nullOr])) | (go_at_call 76; go_must (refine (isNull_any ⟨_, _, _⟩ _).mono ?_; rintro e w1 ⟨rfl, hb⟩; obtain ⟨hc, hz, hf⟩ := kept hb; have hz4 : w.heap.size + 1 + 1 + 1 + 1 < w1.heap.size := hz _ (by first | (simp; done) | (simp; omega) | assumption); have hz3 : w.heap.size + 1 + 1 + 1 < w1.heap.size := hz _ (by first | (simp; done) | (simp; omega) | assumption); have hz2 : w.heap.size + 1 + 1 < w1.heap.size := hz _ (by first | (simp; done) | (simp; omega) | assumption); have hz1 : w.heap.size + 1 < w1.heap.size := hz _ (by first | (simp; done) | (simp; omega) | assumption); have hz0 : w.heap.size < w1.heap.size := hz _ (by first | (simp; done) | (simp; omega) | assumption))))
  (refine bodyPost_ret (v := .tuple #[nul.v, .int .i64 0]) (by simp [results, Tryd.results73, go_sem, *]) rfl ⟨by (rfl), ?_⟩; (repeat (first | exact ext_refl _ | assumption | (refine ext_alloc ?_ _) | (refine ext_drewN ?_ _) | refine ext_drew ?_ | (refine ext_set (by first | (simp; done) | (simp; omega)) _ ?_) | (refine ext_trans ?_ (by assumption)))))

set_option maxHeartbeats 400000 in
theorem connect1_tru0_tru0 (w : World) : Calls Tryd.prog 73 #[(tru 1).v, (tru 0).v, (tru 0).v, (tru 0).v] w fun e w' => e = .returned (.tuple #[(conn 1 0 (tru 0) (tru 0)).1.v, .int .i64 (conn 1 0 (tru 0) (tru 0)).2]) ∧ Below w.heap.size w w' := by
  rw [show conn 1 0 (tru 0) (tru 0) = ((tru 0), 0) by simp [conn, Val.nullOr, Val.right]]
  go_enter Tryd.func73, Tryd.ntmps73
  go_wp2_with (first | (go_at_call 75; go_must (refine (nullOr_any _ ⟨_, _, _⟩ _).mono ?_; rintro e w1 ⟨rfl, hb⟩; obtain ⟨hc, hz, hf⟩ := kept hb; have hz4 : w.heap.size + 1 + 1 + 1 + 1 < w1.heap.size := hz _ (by first | (simp; done) | (simp; omega) | assumption); have hz3 : w.heap.size + 1 + 1 + 1 < w1.heap.size := hz _ (by first | (simp; done) | (simp; omega) | assumption); have hz2 : w.heap.size + 1 + 1 < w1.heap.size := hz _ (by first | (simp; done) | (simp; omega) | assumption); have hz1 : w.heap.size + 1 < w1.heap.size := hz _ (by first | (simp; done) | (simp; omega) | assumption); have hz0 : w.heap.size < w1.heap.size := hz _ (by first | (simp; done) | (simp; omega) | assumption); first | rw [nul_nullOr] | rw [tru0_nullOr] | rw [tru1_nullOr])) | (go_at_call 76; go_must (refine (isNull_any ⟨_, _, _⟩ _).mono ?_; rintro e w1 ⟨rfl, hb⟩; obtain ⟨hc, hz, hf⟩ := kept hb; have hz4 : w.heap.size + 1 + 1 + 1 + 1 < w1.heap.size := hz _ (by first | (simp; done) | (simp; omega) | assumption); have hz3 : w.heap.size + 1 + 1 + 1 < w1.heap.size := hz _ (by first | (simp; done) | (simp; omega) | assumption); have hz2 : w.heap.size + 1 + 1 < w1.heap.size := hz _ (by first | (simp; done) | (simp; omega) | assumption); have hz1 : w.heap.size + 1 < w1.heap.size := hz _ (by first | (simp; done) | (simp; omega) | assumption); have hz0 : w.heap.size < w1.heap.size := hz _ (by first | (simp; done) | (simp; omega) | assumption))))
  (refine bodyPost_ret (v := .tuple #[(tru 0).v, .int .i64 0]) (by simp [results, Tryd.results73, go_sem, *]) rfl ⟨by (rfl), ?_⟩; (repeat (first | exact ext_refl _ | assumption | (refine ext_alloc ?_ _) | (refine ext_drewN ?_ _) | refine ext_drew ?_ | (refine ext_set (by first | (simp; done) | (simp; omega)) _ ?_) | (refine ext_trans ?_ (by assumption)))))

set_option maxHeartbeats 400000 in
theorem connect1_tru0_tru1 (w : World) : Calls Tryd.prog 73 #[(tru 1).v, (tru 0).v, (tru 0).v, (tru 1).v] w fun e w' => e = .returned (.tuple #[(conn 1 0 (tru 0) (tru 1)).1.v, .int .i64 (conn 1 0 (tru 0) (tru 1)).2]) ∧ Below w.heap.size w w' := by
  rw [show conn 1 0 (tru 0) (tru 1) = ((tru 1), 0) by simp [conn, Val.nullOr, Val.right]]
  go_enter Tryd.func73, Tryd.ntmps73
  go_wp2_with (first | (go_at_call 75; go_must (refine (nullOr_any _ ⟨_, _, _⟩ _).mono ?_; rintro e w1 ⟨rfl, hb⟩; obtain ⟨hc, hz, hf⟩ := kept hb; have hz4 : w.heap.size + 1 + 1 + 1 + 1 < w1.heap.size := hz _ (by first | (simp; done) | (simp; omega) | assumption); have hz3 : w.heap.size + 1 + 1 + 1 < w1.heap.size := hz _ (by first | (simp; done) | (simp; omega) | assumption); have hz2 : w.heap.size + 1 + 1 < w1.heap.size := hz _ (by first | (simp; done) | (simp; omega) | assumption); have hz1 : w.heap.size + 1 < w1.heap.size := hz _ (by first | (simp; done) | (simp; omega) | assumption); have hz0 : w.heap.size < w1.heap.size := hz _ (by first | (simp; done) | (simp; omega) | assumption); first | rw [nul_nullOr] | rw [tru0_nullOr] | rw [tru1_nullOr])) | (go_at_call 76; go_must (refine (isNull_any ⟨_, _, _⟩ _).mono ?_; rintro e w1 ⟨rfl, hb⟩; obtain ⟨hc, hz, hf⟩ := kept hb; have hz4 : w.heap.size + 1 + 1 + 1 + 1 < w1.heap.size := hz _ (by first | (simp; done) | (simp; omega) | assumption); have hz3 : w.heap.size + 1 + 1 + 1 < w1.heap.size := hz _ (by first | (simp; done) | (simp; omega) | assumption); have hz2 : w.heap.size + 1 + 1 < w1.heap.size := hz _ (by first | (simp; done) | (simp; omega) | assumption); have hz1 : w.heap.size + 1 < w1.heap.size := hz _ (by first | (simp; done) | (simp; omega) | assumption); have hz0 : w.heap.size < w1.heap.size := hz _ (by first | (simp; done) | (simp; omega) | assumption))))
  (refine bodyPost_ret (v := .tuple #[(tru 1).v, .int .i64 0]) (by simp [results, Tryd.results73, go_sem, *]) rfl ⟨by (rfl), ?_⟩; (repeat (first | exact ext_refl _ | assumption | (refine ext_alloc ?_ _) | (refine ext_drewN ?_ _) | refine ext_drew ?_ | (refine ext_set (by first | (simp; done) | (simp; omega)) _ ?_) | (refine ext_trans ?_ (by assumption)))))

set_option maxHeartbeats 400000 in
theorem connect1_tru1_nul (w : World) : Calls Tryd.prog 73 #[(tru 1).v, (tru 0).v, (tru 1).v, nul.v] w fun e w' => e = .returned (.tuple #[(conn 1 0 (tru 1) nul).1.v, .int .i64 (conn 1 0 (tru 1) nul).2]) ∧ Below w.heap.size w w' := by
  rw [show conn 1 0 (tru 1) nul = ((tru 1), 0) by simp [conn, Val.nullOr, Val.right]]
  go_enter Tryd.func73, Tryd.ntmps73
  go_wp2_with (first | (go_at_call 75; go_must (refine (nullOr_any _ ⟨_, _, _⟩ _).mono ?_; rintro e w1 ⟨rfl, hb⟩; obtain ⟨hc, hz, hf⟩ := kept hb; have hz4 : w.heap.size + 1 + 1 + 1 + 1 < w1.heap.size := hz _ (by first | (simp; done) | (simp; omega) | assumption); have hz3 : w.heap.size + 1 + 1 + 1 < w1.heap.size := hz _ (by first | (simp; done) | (simp; omega) | assumption); have hz2 : w.heap.size + 1 + 1 < w1.heap.size := hz _ (by first | (simp; done) | (simp; omega) | assumption); have hz1 : w.heap.size + 1 < w1.heap.size := hz _ (by first | (simp; done) | (simp; omega) | assumption); have hz0 : w.heap.size < w1.heap.size := hz _ (by first | (simp; done) | (simp; omega) | assumption); first | rw [nul_nullOr] | rw [tru0_nullOr] | rw [tru1_nullOr])) | (go_at_call 76; go_must (refine (isNull_any ⟨_, _, _⟩ _).mono ?_; rintro e w1 ⟨rfl, hb⟩; obtain ⟨hc, hz, hf⟩ := kept hb; have hz4 : w.heap.size + 1 + 1 + 1 + 1 < w1.heap.size := hz _ (by first | (simp; done) | (simp; omega) | assumption); have hz3 : w.heap.size + 1 + 1 + 1 < w1.heap.size := hz _ (by first | (simp; done) | (simp; omega) | assumption); have hz2 : w.heap.size + 1 + 1 < w1.heap.size := hz _ (by first | (simp; done) | (simp; omega) | assumption); have hz1 : w.heap.size + 1 < w1.heap.size := hz _ (by first | (simp; done) | (simp; omega) | assumption); have hz0 : w.heap.size < w1.heap.size := hz _ (by first | (simp; done) | (simp; omega) | assumption))))
  (refine bodyPost_ret (v := .tuple #[(tru 1).v, .int .i64 0]) (by simp [results, Tryd.results73, go_sem, *]) rfl ⟨by (rfl), ?_⟩; (repeat (first | exact ext_refl _ | assumption | (refine ext_alloc ?_ _) | (refine ext_drewN ?_ _) | refine ext_drew ?_ | (refine ext_set (by first | (simp; done) | (simp; omega)) _ ?_) | (refine ext_trans ?_ (by assumption)))))

set_option maxHeartbeats 400000 in
theorem connect1_tru1_tru0 (w : World) : Calls Tryd.prog 73 #[(tru 1).v, (tru 0).v, (tru 1).v, (tru 0).v] w fun e w' => e = .returned (.tuple #[(conn 1 0 (tru 1) (tru 0)).1.v, .int .i64 (conn 1 0 (tru 1) (tru 0)).2]) ∧ Below w.heap.size w w' := by
  rw [show conn 1 0 (tru 1) (tru 0) = ((tru 1), 0) by simp [conn, Val.nullOr, Val.right]]
  go_enter Tryd.func73, Tryd.ntmps73
  go_wp2_with (first | (go_at_call 75; go_must (refine (nullOr_any _ ⟨_, _, _⟩ _).mono ?_; rintro e w1 ⟨rfl, hb⟩; obtain ⟨hc, hz, hf⟩ := kept hb; have hz4 : w.heap.size + 1 + 1 + 1 + 1 < w1.heap.size := hz _ (by first | (simp; done) | (simp; omega) | assumption); have hz3 : w.heap.size + 1 + 1 + 1 < w1.heap.size := hz _ (by first | (simp; done) | (simp; omega) | assumption); have hz2 : w.heap.size + 1 + 1 < w1.heap.size := hz _ (by first | (simp; done) | (simp; omega) | assumption); have hz1 : w.heap.size + 1 < w1.heap.size := hz _ (by first | (simp; done) | (simp; omega) | assumption); have hz0 : w.heap.size < w1.heap.size := hz _ (by first | (simp; done) | (simp; omega) | assumption); first | rw [nul_nullOr] | rw [tru0_nullOr] | rw [tru1_nullOr])) | (go_at_call 76; go_must (refine (isNull_any ⟨_, _, _⟩ _).mono ?_; rintro e w1 ⟨rfl, hb⟩; obtain ⟨hc, hz, hf⟩ := kept hb; have hz4 : w.heap.size + 1 + 1 + 1 + 1 < w1.heap.size := hz _ (by first | (simp; done) | (simp; omega) | assumption); have hz3 : w.heap.size + 1 + 1 + 1 < w1.heap.size := hz _ (by first | (simp; done) | (simp; omega) | assumption); have hz2 : w.heap.size + 1 + 1 < w1.heap.size := hz _ (by first | (simp; done) | (simp; omega) | assumption); have hz1 : w.heap.size + 1 < w1.heap.size := hz _ (by first | (simp; done) | (simp; omega) | assumption); have hz0 : w.heap.size < w1.heap.size := hz _ (by first | (simp; done) | (simp; omega) | assumption))))
  (refine bodyPost_ret (v := .tuple #[(tru 1).v, .int .i64 0]) (by simp [results, Tryd.results73, go_sem, *]) rfl ⟨by (rfl), ?_⟩; (repeat (first | exact ext_refl _ | assumption | (refine ext_alloc ?_ _) | (refine ext_drewN ?_ _) | refine ext_drew ?_ | (refine ext_set (by first | (simp; done) | (simp; omega)) _ ?_) | (refine ext_trans ?_ (by assumption)))))

set_option maxHeartbeats 400000 in
theorem connect1_tru1_tru1 (w : World) : Calls Tryd.prog 73 #[(tru 1).v, (tru 0).v, (tru 1).v, (tru 1).v] w fun e w' => e = .returned (.tuple #[(conn 1 0 (tru 1) (tru 1)).1.v, .int .i64 (conn 1 0 (tru 1) (tru 1)).2]) ∧ Below w.heap.size w w' := by
  rw [show conn 1 0 (tru 1) (tru 1) = ((tru 1), 0) by simp [conn, Val.nullOr, Val.right]]
  go_enter Tryd.func73, Tryd.ntmps73
  go_wp2_with (first | (go_at_call 75; go_must (refine (nullOr_any _ ⟨_, _, _⟩ _).mono ?_; rintro e w1 ⟨rfl, hb⟩; obtain ⟨hc, hz, hf⟩ := kept hb; have hz4 : w.heap.size + 1 + 1 + 1 + 1 < w1.heap.size := hz _ (by first | (simp; done) | (simp; omega) | assumption); have hz3 : w.heap.size + 1 + 1 + 1 < w1.heap.size := hz _ (by first | (simp; done) | (simp; omega) | assumption); have hz2 : w.heap.size + 1 + 1 < w1.heap.size := hz _ (by first | (simp; done) | (simp; omega) | assumption); have hz1 : w.heap.size + 1 < w1.heap.size := hz _ (by first | (simp; done) | (simp; omega) | assumption); have hz0 : w.heap.size < w1.heap.size := hz _ (by first | (simp; done) | (simp; omega) | assumption); first | rw [nul_nullOr] | rw [tru0_nullOr] | rw [tru1_nullOr])) | (go_at_call 76; go_must (refine (isNull_any ⟨_, _, _⟩ _).mono ?_; rintro e w1 ⟨rfl, hb⟩; obtain ⟨hc, hz, hf⟩ := kept hb; have hz4 : w.heap.size + 1 + 1 + 1 + 1 < w1.heap.size := hz _ (by first | (simp; done) | (simp; omega) | assumption); have hz3 : w.heap.size + 1 + 1 + 1 < w1.heap.size := hz _ (by first | (simp; done) | (simp; omega) | assumption); have hz2 : w.heap.size + 1 + 1 < w1.heap.size := hz _ (by first | (simp; done) | (simp; omega) | assumption); have hz1 : w.heap.size + 1 < w1.heap.size := hz _ (by first | (simp; done) | (simp; omega) | assumption); have hz0 : w.heap.size < w1.heap.size := hz _ (by first | (simp; done) | (simp; omega) | assumption))))
  (refine bodyPost_ret (v := .tuple #[(tru 1).v, .int .i64 0]) (by simp [results, Tryd.results73, go_sem, *]) rfl ⟨by (rfl), ?_⟩; (repeat (first | exact ext_refl _ | assumption | (refine ext_alloc ?_ _) | (refine ext_drewN ?_ _) | refine ext_drew ?_ | (refine ext_set (by first | (simp; done) | (simp; omega)) _ ?_) | (refine ext_trans ?_ (by assumption)))))

theorem connect1_any (x y : Val) (w : World) :
    Calls Tryd.prog 73 #[(tru 1).v, (tru 0).v, x.v, y.v] w fun e w' => e = .returned (.tuple #[(conn 1 0 x y).1.v, .int .i64 (conn 1 0 x y).2]) ∧ Below w.heap.size w w' := by
  cases h1 : x.nullOr 2
  · rw [conn_no 1 0 x y (by rw [h1]; rfl)]
    exact connect_no1 x y w (.inl h1)
  cases h2 : y.nullOr 2
  · rw [conn_no 1 0 x y (by rw [h1, h2]; rfl)]
    exact connect_no1 x y w (.inr ⟨h1, h2⟩)
  rcases truths h1 with rfl | rfl | rfl <;> rcases truths h2 with rfl | rfl | rfl
  · exact connect1_nul_nul w
  · exact connect1_nul_tru0 w
  · exact connect1_nul_tru1 w
  · exact connect1_tru0_nul w
  · exact connect1_tru0_tru0 w
  · exact connect1_tru0_tru1 w
  · exact connect1_tru1_nul w
  · exact connect1_tru1_tru0 w
  · exact connect1_tru1_tru1 w

set_option maxHeartbeats 1000000 in
theorem and_any (x y : Val) (w : World) :
    Calls Tryd.prog 64 #[x.v, y.v] w fun e w' => e = .returned (.tuple #[(conn 0 1 x y).1.v, .int .i64 (conn 0 1 x y).2]) ∧ Below w.heap.size w w' := by
  obtain ⟨k, n, s⟩ := x
  obtain ⟨l, m, t⟩ := y
  go_enter Tryd.func64, Tryd.ntmps64
  go_wp2
  go_region_held3 (fun w' => w'.cell? ⟨w.heap.size, 0, none⟩ = some (.int .i64 k) ∧ w'.cell? ⟨w.heap.size, 1, none⟩ = some (.int .i64 n) ∧ w'.cell? ⟨w.heap.size, 2, none⟩ = some (.string s) ∧ w'.cell? ⟨w.heap.size + 1, 0, none⟩ = some (.int .i64 l) ∧ w'.cell? ⟨w.heap.size + 1, 1, none⟩ = some (.int .i64 m) ∧ w'.cell? ⟨w.heap.size + 1, 2, none⟩ = some (.string t))
    (go_keep) (first | (go_at_call 74; go_must (refine (truth_any _ _).mono ?_; rintro e w1 ⟨rfl, hb⟩; obtain ⟨hc, hz, hf⟩ := kept hb; (try simp only [World.heap_drewN, World.cell?_drewN, World.frozen?_drewN] at hc hz hf); have hz2 : w.heap.size + 1 + 1 < w1.heap.size := hz _ (by first | (simp; done) | (simp; omega) | assumption); have hz1 : w.heap.size + 1 < w1.heap.size := hz _ (by first | (simp; done) | (simp; omega) | assumption); have hz0 : w.heap.size < w1.heap.size := hz _ (by first | (simp; done) | (simp; omega) | assumption))) | (go_at_call 73; go_must (refine (connect0_any ⟨k, n, s⟩ ⟨l, m, t⟩ _).mono ?_; rintro e w1 ⟨rfl, hb⟩; obtain ⟨hc, hz, hf⟩ := kept hb; (try simp only [World.heap_drewN, World.cell?_drewN, World.frozen?_drewN] at hc hz hf); have hz2 : w.heap.size + 1 + 1 < w1.heap.size := hz _ (by first | (simp; done) | (simp; omega) | assumption); have hz1 : w.heap.size + 1 < w1.heap.size := hz _ (by first | (simp; done) | (simp; omega) | assumption); have hz0 : w.heap.size < w1.heap.size := hz _ (by first | (simp; done) | (simp; omega) | assumption))))
  all_goals go_wp2
  all_goals (refine bodyPost_ret (v := .tuple #[(conn 0 1 ⟨k, n, s⟩ ⟨l, m, t⟩).1.v, .int .i64 (conn 0 1 ⟨k, n, s⟩ ⟨l, m, t⟩).2]) (by simp [results, Tryd.results64, go_sem, *]) rfl ⟨by (rfl), ?_⟩; (repeat (first | exact ext_refl _ | assumption | (refine ext_alloc ?_ _) | (refine ext_drewN ?_ _) | refine ext_drew ?_ | (refine ext_set (by first | (simp; done) | (simp; omega)) _ ?_) | (refine ext_trans ?_ (by assumption)))))

set_option maxHeartbeats 1000000 in
theorem or_any (x y : Val) (w : World) :
    Calls Tryd.prog 65 #[x.v, y.v] w fun e w' => e = .returned (.tuple #[(conn 1 0 x y).1.v, .int .i64 (conn 1 0 x y).2]) ∧ Below w.heap.size w w' := by
  obtain ⟨k, n, s⟩ := x
  obtain ⟨l, m, t⟩ := y
  go_enter Tryd.func65, Tryd.ntmps65
  go_wp2
  go_region_held3 (fun w' => w'.cell? ⟨w.heap.size, 0, none⟩ = some (.int .i64 k) ∧ w'.cell? ⟨w.heap.size, 1, none⟩ = some (.int .i64 n) ∧ w'.cell? ⟨w.heap.size, 2, none⟩ = some (.string s) ∧ w'.cell? ⟨w.heap.size + 1, 0, none⟩ = some (.int .i64 l) ∧ w'.cell? ⟨w.heap.size + 1, 1, none⟩ = some (.int .i64 m) ∧ w'.cell? ⟨w.heap.size + 1, 2, none⟩ = some (.string t))
    (go_keep) (first | (go_at_call 74; go_must (refine (truth_any _ _).mono ?_; rintro e w1 ⟨rfl, hb⟩; obtain ⟨hc, hz, hf⟩ := kept hb; (try simp only [World.heap_drewN, World.cell?_drewN, World.frozen?_drewN] at hc hz hf); have hz2 : w.heap.size + 1 + 1 < w1.heap.size := hz _ (by first | (simp; done) | (simp; omega) | assumption); have hz1 : w.heap.size + 1 < w1.heap.size := hz _ (by first | (simp; done) | (simp; omega) | assumption); have hz0 : w.heap.size < w1.heap.size := hz _ (by first | (simp; done) | (simp; omega) | assumption))) | (go_at_call 73; go_must (refine (connect1_any ⟨k, n, s⟩ ⟨l, m, t⟩ _).mono ?_; rintro e w1 ⟨rfl, hb⟩; obtain ⟨hc, hz, hf⟩ := kept hb; (try simp only [World.heap_drewN, World.cell?_drewN, World.frozen?_drewN] at hc hz hf); have hz2 : w.heap.size + 1 + 1 < w1.heap.size := hz _ (by first | (simp; done) | (simp; omega) | assumption); have hz1 : w.heap.size + 1 < w1.heap.size := hz _ (by first | (simp; done) | (simp; omega) | assumption); have hz0 : w.heap.size < w1.heap.size := hz _ (by first | (simp; done) | (simp; omega) | assumption))))
  all_goals go_wp2
  all_goals (refine bodyPost_ret (v := .tuple #[(conn 1 0 ⟨k, n, s⟩ ⟨l, m, t⟩).1.v, .int .i64 (conn 1 0 ⟨k, n, s⟩ ⟨l, m, t⟩).2]) (by simp [results, Tryd.results65, go_sem, *]) rfl ⟨by (rfl), ?_⟩; (repeat (first | exact ext_refl _ | assumption | (refine ext_alloc ?_ _) | (refine ext_drewN ?_ _) | refine ext_drew ?_ | (refine ext_set (by first | (simp; done) | (simp; omega)) _ ?_) | (refine ext_trans ?_ (by assumption)))))

set_option maxHeartbeats 400000 in
theorem not_no (x : Val) (w : World) (h : x.nullOr 2 = false) :
    Calls Tryd.prog 66 #[x.v] w fun e w' => e = .returned (.tuple #[nul.v, .int .i64 1]) ∧ Below w.heap.size w w' := by
  obtain ⟨k, n, s⟩ := x
  have H1 := Lib.hid h
  clear h
  go_enter Tryd.func66, Tryd.ntmps66
  go_wp2_with (first | (go_at_call 75; go_must (refine (nullOr_any _ ⟨_, _, _⟩ _).mono ?_; rintro e w1 ⟨rfl, hb⟩; obtain ⟨hc, hz, hf⟩ := kept hb; have hz1 : w.heap.size + 1 < w1.heap.size := hz _ (by first | (simp; done) | (simp; omega) | assumption); have hz0 : w.heap.size < w1.heap.size := hz _ (by first | (simp; done) | (simp; omega) | assumption); rw [H1.out])))
  (refine bodyPost_ret (v := .tuple #[nul.v, .int .i64 1]) (by simp [results, Tryd.results66, go_sem, *]) rfl ⟨by (rfl), ?_⟩; (repeat (first | exact ext_refl _ | assumption | (refine ext_alloc ?_ _) | (refine ext_drewN ?_ _) | refine ext_drew ?_ | (refine ext_set (by first | (simp; done) | (simp; omega)) _ ?_) | (refine ext_trans ?_ (by assumption)))))

set_option maxHeartbeats 400000 in
theorem not_nul (w : World) : Calls Tryd.prog 66 #[nul.v] w fun e w' => e = .returned (.tuple #[(notS nul).1.v, .int .i64 (notS nul).2]) ∧ Below w.heap.size w w' := by
  rw [show notS nul = (nul, 0) by simp [notS, Val.nullOr, Val.right]]
  go_enter Tryd.func66, Tryd.ntmps66
  go_wp2_with (first | (go_at_call 75; go_must (refine (nullOr_any _ ⟨_, _, _⟩ _).mono ?_; rintro e w1 ⟨rfl, hb⟩; obtain ⟨hc, hz, hf⟩ := kept hb; have hz1 : w.heap.size + 1 < w1.heap.size := hz _ (by first | (simp; done) | (simp; omega) | assumption); have hz0 : w.heap.size < w1.heap.size := hz _ (by first | (simp; done) | (simp; omega) | assumption); first | rw [nul_nullOr] | rw [tru0_nullOr] | rw [tru1_nullOr])) | (go_at_call 76; go_must (refine (isNull_any ⟨_, _, _⟩ _).mono ?_; rintro e w1 ⟨rfl, hb⟩; obtain ⟨hc, hz, hf⟩ := kept hb; have hz1 : w.heap.size + 1 < w1.heap.size := hz _ (by first | (simp; done) | (simp; omega) | assumption); have hz0 : w.heap.size < w1.heap.size := hz _ (by first | (simp; done) | (simp; omega) | assumption))) | (go_at_call 74; go_must (refine (truth_any _ _).mono ?_; rintro e w1 ⟨rfl, hb⟩; obtain ⟨hc, hz, hf⟩ := kept hb; have hz1 : w.heap.size + 1 < w1.heap.size := hz _ (by first | (simp; done) | (simp; omega) | assumption); have hz0 : w.heap.size < w1.heap.size := hz _ (by first | (simp; done) | (simp; omega) | assumption))))
  (refine bodyPost_ret (v := .tuple #[nul.v, .int .i64 0]) (by simp [results, Tryd.results66, go_sem, *]) rfl ⟨by (rfl), ?_⟩; (repeat (first | exact ext_refl _ | assumption | (refine ext_alloc ?_ _) | (refine ext_drewN ?_ _) | refine ext_drew ?_ | (refine ext_set (by first | (simp; done) | (simp; omega)) _ ?_) | (refine ext_trans ?_ (by assumption)))))

set_option maxHeartbeats 400000 in
theorem not_tru0 (w : World) : Calls Tryd.prog 66 #[(tru 0).v] w fun e w' => e = .returned (.tuple #[(notS (tru 0)).1.v, .int .i64 (notS (tru 0)).2]) ∧ Below w.heap.size w w' := by
  rw [show notS (tru 0) = ((tru 1), 0) by simp [notS, Val.nullOr, Val.right]]
  go_enter Tryd.func66, Tryd.ntmps66
  go_wp2_with (first | (go_at_call 75; go_must (refine (nullOr_any _ ⟨_, _, _⟩ _).mono ?_; rintro e w1 ⟨rfl, hb⟩; obtain ⟨hc, hz, hf⟩ := kept hb; have hz1 : w.heap.size + 1 < w1.heap.size := hz _ (by first | (simp; done) | (simp; omega) | assumption); have hz0 : w.heap.size < w1.heap.size := hz _ (by first | (simp; done) | (simp; omega) | assumption); first | rw [nul_nullOr] | rw [tru0_nullOr] | rw [tru1_nullOr])) | (go_at_call 76; go_must (refine (isNull_any ⟨_, _, _⟩ _).mono ?_; rintro e w1 ⟨rfl, hb⟩; obtain ⟨hc, hz, hf⟩ := kept hb; have hz1 : w.heap.size + 1 < w1.heap.size := hz _ (by first | (simp; done) | (simp; omega) | assumption); have hz0 : w.heap.size < w1.heap.size := hz _ (by first | (simp; done) | (simp; omega) | assumption))) | (go_at_call 74; go_must (refine (truth_any _ _).mono ?_; rintro e w1 ⟨rfl, hb⟩; obtain ⟨hc, hz, hf⟩ := kept hb; have hz1 : w.heap.size + 1 < w1.heap.size := hz _ (by first | (simp; done) | (simp; omega) | assumption); have hz0 : w.heap.size < w1.heap.size := hz _ (by first | (simp; done) | (simp; omega) | assumption))))
  (refine bodyPost_ret (v := .tuple #[(tru 1).v, .int .i64 0]) (by simp [results, Tryd.results66, go_sem, *]) rfl ⟨by (rfl), ?_⟩; (repeat (first | exact ext_refl _ | assumption | (refine ext_alloc ?_ _) | (refine ext_drewN ?_ _) | refine ext_drew ?_ | (refine ext_set (by first | (simp; done) | (simp; omega)) _ ?_) | (refine ext_trans ?_ (by assumption)))))

set_option maxHeartbeats 400000 in
theorem not_tru1 (w : World) : Calls Tryd.prog 66 #[(tru 1).v] w fun e w' => e = .returned (.tuple #[(notS (tru 1)).1.v, .int .i64 (notS (tru 1)).2]) ∧ Below w.heap.size w w' := by
  rw [show notS (tru 1) = ((tru 0), 0) by simp [notS, Val.nullOr, Val.right]]
  go_enter Tryd.func66, Tryd.ntmps66
  go_wp2_with (first | (go_at_call 75; go_must (refine (nullOr_any _ ⟨_, _, _⟩ _).mono ?_; rintro e w1 ⟨rfl, hb⟩; obtain ⟨hc, hz, hf⟩ := kept hb; have hz1 : w.heap.size + 1 < w1.heap.size := hz _ (by first | (simp; done) | (simp; omega) | assumption); have hz0 : w.heap.size < w1.heap.size := hz _ (by first | (simp; done) | (simp; omega) | assumption); first | rw [nul_nullOr] | rw [tru0_nullOr] | rw [tru1_nullOr])) | (go_at_call 76; go_must (refine (isNull_any ⟨_, _, _⟩ _).mono ?_; rintro e w1 ⟨rfl, hb⟩; obtain ⟨hc, hz, hf⟩ := kept hb; have hz1 : w.heap.size + 1 < w1.heap.size := hz _ (by first | (simp; done) | (simp; omega) | assumption); have hz0 : w.heap.size < w1.heap.size := hz _ (by first | (simp; done) | (simp; omega) | assumption))) | (go_at_call 74; go_must (refine (truth_any _ _).mono ?_; rintro e w1 ⟨rfl, hb⟩; obtain ⟨hc, hz, hf⟩ := kept hb; have hz1 : w.heap.size + 1 < w1.heap.size := hz _ (by first | (simp; done) | (simp; omega) | assumption); have hz0 : w.heap.size < w1.heap.size := hz _ (by first | (simp; done) | (simp; omega) | assumption))))
  (refine bodyPost_ret (v := .tuple #[(tru 0).v, .int .i64 0]) (by simp [results, Tryd.results66, go_sem, *]) rfl ⟨by (rfl), ?_⟩; (repeat (first | exact ext_refl _ | assumption | (refine ext_alloc ?_ _) | (refine ext_drewN ?_ _) | refine ext_drew ?_ | (refine ext_set (by first | (simp; done) | (simp; omega)) _ ?_) | (refine ext_trans ?_ (by assumption)))))

theorem not_any (x : Val) (w : World) :
    Calls Tryd.prog 66 #[x.v] w fun e w' => e = .returned (.tuple #[(notS x).1.v, .int .i64 (notS x).2]) ∧ Below w.heap.size w w' := by
  cases h1 : x.nullOr 2
  · rw [show notS x = (nul, 1) by simp only [notS, h1]; rfl]
    exact not_no x w h1
  rcases truths h1 with rfl | rfl | rfl
  · exact not_nul w
  · exact not_tru0 w
  · exact not_tru1 w

end Go.Proofs.YtiidfghdmaipoaaDoor
