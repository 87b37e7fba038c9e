/- What the document's own answers to products, quotients, and a number turned round are, for every value whose numbers fit. -/
import Derived.Test.YthdnbcdcfaocmaaDoorValR
namespace Go.Proofs.YthdnbcdcfaocmaaDoor
open Go.RowKit
set_option maxRecDepth 100000

set_option maxHeartbeats 400000 in
theorem rmul_no (k n l m : Int) (s t : ByteArray) (w : World) (h1 : (Val.nullOr 1 ⟨k, n, s⟩ && Val.nullOr 1 ⟨l, m, t⟩) = false) :
    Calls Tryd.prog 88 #[(Val.mk k n s).v, (Val.mk l m t).v] w fun e w' => e = .returned (.tuple #[nul.v, .int .i64 1]) ∧ Below w.heap.size w w' := by
  have H1 := Lib.hid h1
  clear h1
  go_enter Tryd.func88, Tryd.ntmps88
  go_wp2_with (first | (go_at_call 105; go_must (refine (of_any 1 ⟨_, _, _⟩ ⟨_, _, _⟩ _).mono ?_; rintro e w1 ⟨rfl, hb⟩; obtain ⟨hc, hz, hf⟩ := kept hb; have hz2 : w.heap.size + 1 + 1 < w1.heap.size := hz _ (by first | (simp; done) | (simp; omega) | assumption); have hz1 : w.heap.size + 1 < w1.heap.size := hz _ (by first | (simp; done) | (simp; omega) | assumption); have hz0 : w.heap.size < w1.heap.size := hz _ (by first | (simp; done) | (simp; omega) | assumption); rw [H1.out])))
  (refine bodyPost_ret (v := .tuple #[nul.v, .int .i64 1]) (by simp [results, Tryd.results88, go_sem, *]) rfl ⟨by (rfl), ?_⟩; (repeat (first | exact ext_refl _ | assumption | (refine ext_alloc ?_ _) | (refine ext_drewN ?_ _) | refine ext_drew ?_ | (refine ext_set (by first | (simp; done) | (simp; omega)) _ ?_) | (refine ext_trans ?_ (by assumption)))))

set_option maxHeartbeats 400000 in
theorem rmul_null (k n l m : Int) (s t : ByteArray) (w : World) (h1 : (Val.nullOr 1 ⟨k, n, s⟩ && Val.nullOr 1 ⟨l, m, t⟩) = true) (h : (k == 0) = true ∨ (k == 0) = false ∧ (l == 0) = true) :
    Calls Tryd.prog 88 #[(Val.mk k n s).v, (Val.mk l m t).v] w fun e w' => e = .returned (.tuple #[nul.v, .int .i64 0]) ∧ Below w.heap.size w w' := by
  have H1 := Lib.hid h1
  clear h1
  rcases h with h3 | ⟨h3, h4⟩
  all_goals go_enter Tryd.func88, Tryd.ntmps88
  all_goals go_wp2_with (first | (go_at_call 105; go_must (refine (of_any 1 ⟨_, _, _⟩ ⟨_, _, _⟩ _).mono ?_; rintro e w1 ⟨rfl, hb⟩; obtain ⟨hc, hz, hf⟩ := kept hb; have hz2 : w.heap.size + 1 + 1 < w1.heap.size := hz _ (by first | (simp; done) | (simp; omega) | assumption); have hz1 : w.heap.size + 1 < w1.heap.size := hz _ (by first | (simp; done) | (simp; omega) | assumption); have hz0 : w.heap.size < w1.heap.size := hz _ (by first | (simp; done) | (simp; omega) | assumption); rw [H1.out])))
  all_goals (refine bodyPost_ret (v := .tuple #[nul.v, .int .i64 0]) (by simp [results, Tryd.results88, go_sem, *]) rfl ⟨by (rfl), ?_⟩; (repeat (first | exact ext_refl _ | assumption | (refine ext_alloc ?_ _) | (refine ext_drewN ?_ _) | refine ext_drew ?_ | (refine ext_set (by first | (simp; done) | (simp; omega)) _ ?_) | (refine ext_trans ?_ (by assumption)))))

set_option maxHeartbeats 400000 in
theorem rdiv_no (k n l m : Int) (s t : ByteArray) (w : World) (h1 : (Val.nullOr 1 ⟨k, n, s⟩ && Val.nullOr 1 ⟨l, m, t⟩) = false) :
    Calls Tryd.prog 89 #[(Val.mk k n s).v, (Val.mk l m t).v] w fun e w' => e = .returned (.tuple #[nul.v, .int .i64 1]) ∧ Below w.heap.size w w' := by
  have H1 := Lib.hid h1
  clear h1
  go_enter Tryd.func89, Tryd.ntmps89
  go_wp2_with (first | (go_at_call 105; go_must (refine (of_any 1 ⟨_, _, _⟩ ⟨_, _, _⟩ _).mono ?_; rintro e w1 ⟨rfl, hb⟩; obtain ⟨hc, hz, hf⟩ := kept hb; have hz2 : w.heap.size + 1 + 1 < w1.heap.size := hz _ (by first | (simp; done) | (simp; omega) | assumption); have hz1 : w.heap.size + 1 < w1.heap.size := hz _ (by first | (simp; done) | (simp; omega) | assumption); have hz0 : w.heap.size < w1.heap.size := hz _ (by first | (simp; done) | (simp; omega) | assumption); rw [H1.out])))
  (refine bodyPost_ret (v := .tuple #[nul.v, .int .i64 1]) (by simp [results, Tryd.results89, go_sem, *]) rfl ⟨by (rfl), ?_⟩; (repeat (first | exact ext_refl _ | assumption | (refine ext_alloc ?_ _) | (refine ext_drewN ?_ _) | refine ext_drew ?_ | (refine ext_set (by first | (simp; done) | (simp; omega)) _ ?_) | (refine ext_trans ?_ (by assumption)))))

set_option maxHeartbeats 400000 in
theorem rdiv_null (k n l m : Int) (s t : ByteArray) (w : World) (h1 : (Val.nullOr 1 ⟨k, n, s⟩ && Val.nullOr 1 ⟨l, m, t⟩) = true) (h : (k == 0) = true ∨ (k == 0) = false ∧ (l == 0) = true) :
    Calls Tryd.prog 89 #[(Val.mk k n s).v, (Val.mk l m t).v] w fun e w' => e = .returned (.tuple #[nul.v, .int .i64 0]) ∧ Below w.heap.size w w' := by
  have H1 := Lib.hid h1
  clear h1
  rcases h with h3 | ⟨h3, h4⟩
  all_goals go_enter Tryd.func89, Tryd.ntmps89
  all_goals go_wp2_with (first | (go_at_call 105; go_must (refine (of_any 1 ⟨_, _, _⟩ ⟨_, _, _⟩ _).mono ?_; rintro e w1 ⟨rfl, hb⟩; obtain ⟨hc, hz, hf⟩ := kept hb; have hz2 : w.heap.size + 1 + 1 < w1.heap.size := hz _ (by first | (simp; done) | (simp; omega) | assumption); have hz1 : w.heap.size + 1 < w1.heap.size := hz _ (by first | (simp; done) | (simp; omega) | assumption); have hz0 : w.heap.size < w1.heap.size := hz _ (by first | (simp; done) | (simp; omega) | assumption); rw [H1.out])))
  all_goals (refine bodyPost_ret (v := .tuple #[nul.v, .int .i64 0]) (by simp [results, Tryd.results89, go_sem, *]) rfl ⟨by (rfl), ?_⟩; (repeat (first | exact ext_refl _ | assumption | (refine ext_alloc ?_ _) | (refine ext_drewN ?_ _) | refine ext_drew ?_ | (refine ext_set (by first | (simp; done) | (simp; omega)) _ ?_) | (refine ext_trans ?_ (by assumption)))))

set_option maxHeartbeats 400000 in
theorem rmul_zero (k l m : Int) (s t : ByteArray) (w : World) (h1 : (Val.nullOr 1 ⟨k, 0, s⟩ && Val.nullOr 1 ⟨l, m, t⟩) = true) (h3 : (k == 0) = false) (h4 : (l == 0) = false) :
    Calls Tryd.prog 88 #[(Val.mk k 0 s).v, (Val.mk l m t).v] w fun e w' => e = .returned (.tuple #[(num 0).v, .int .i64 0]) ∧ Below w.heap.size w w' := by
  have H1 := Lib.hid h1
  clear h1
  go_enter Tryd.func88, Tryd.ntmps88
  go_wp2_with (first | (go_at_call 105; go_must (refine (of_any 1 ⟨_, _, _⟩ ⟨_, _, _⟩ _).mono ?_; rintro e w1 ⟨rfl, hb⟩; obtain ⟨hc, hz, hf⟩ := kept hb; have hz2 : w.heap.size + 1 + 1 < w1.heap.size := hz _ (by first | (simp; done) | (simp; omega) | assumption); have hz1 : w.heap.size + 1 < w1.heap.size := hz _ (by first | (simp; done) | (simp; omega) | assumption); have hz0 : w.heap.size < w1.heap.size := hz _ (by first | (simp; done) | (simp; omega) | assumption); rw [H1.out])))
  go_quiet (fail)
  go_wp2_with (first | (go_at_call 106; go_must (refine (one_any _ _).mono ?_; rintro e w1 ⟨rfl, hb⟩; obtain ⟨hc, hz, hf⟩ := kept hb; (try simp only [World.heap_drewN, World.cell?_drewN, World.frozen?_drewN] at hc hz hf); have hz2 : w.heap.size + 1 + 1 < w1.heap.size := hz _ (by first | (simp; done) | (simp; omega) | assumption); have hz1 : w.heap.size + 1 < w1.heap.size := hz _ (by first | (simp; done) | (simp; omega) | assumption); have hz0 : w.heap.size < w1.heap.size := hz _ (by first | (simp; done) | (simp; omega) | assumption))))
  (refine bodyPost_ret (v := .tuple #[(num 0).v, .int .i64 0]) (by simp [results, Tryd.results88, go_sem, *]) rfl ⟨by (rfl), ?_⟩; (repeat (first | exact ext_refl _ | assumption | (refine ext_alloc ?_ _) | (refine ext_drewN ?_ _) | refine ext_drew ?_ | (refine ext_set (by first | (simp; done) | (simp; omega)) _ ?_) | (refine ext_trans ?_ (by assumption)))))

set_option maxHeartbeats 400000 in
theorem rmul_over (k n l m : Int) (s t : ByteArray) (w : World) (h1 : (Val.nullOr 1 ⟨k, n, s⟩ && Val.nullOr 1 ⟨l, m, t⟩) = true) (h3 : (k == 0) = false) (h4 : (l == 0) = false) (h5 : (n != 0) = true) (h5' : n ≠ 0)
    (h : (wrap64 ((wrap64 (n * m)).tdiv n) != m) = true ∨ (wrap64 ((wrap64 (n * m)).tdiv n) != m) = false ∧ (n == -1) = true ∧ (m == -9223372036854775808) = true) :
    Calls Tryd.prog 88 #[(Val.mk k n s).v, (Val.mk l m t).v] w fun e w' => e = .returned (.tuple #[nul.v, .int .i64 3]) ∧ Below w.heap.size w w' := by
  have H1 := Lib.hid h1
  clear h1
  rcases h with h6 | ⟨h6, h7, h8⟩
  all_goals go_enter Tryd.func88, Tryd.ntmps88
  all_goals go_wp2_with (first | (go_at_call 105; go_must (refine (of_any 1 ⟨_, _, _⟩ ⟨_, _, _⟩ _).mono ?_; rintro e w1 ⟨rfl, hb⟩; obtain ⟨hc, hz, hf⟩ := kept hb; have hz2 : w.heap.size + 1 + 1 < w1.heap.size := hz _ (by first | (simp; done) | (simp; omega) | assumption); have hz1 : w.heap.size + 1 < w1.heap.size := hz _ (by first | (simp; done) | (simp; omega) | assumption); have hz0 : w.heap.size < w1.heap.size := hz _ (by first | (simp; done) | (simp; omega) | assumption); rw [H1.out])))
  all_goals go_quiet (fail)
  all_goals go_wp2
  all_goals (refine bodyPost_ret (v := .tuple #[nul.v, .int .i64 3]) (by simp [results, Tryd.results88, go_sem, *]) rfl ⟨by (rfl), ?_⟩; (repeat (first | exact ext_refl _ | assumption | (refine ext_alloc ?_ _) | (refine ext_drewN ?_ _) | refine ext_drew ?_ | (refine ext_set (by first | (simp; done) | (simp; omega)) _ ?_) | (refine ext_trans ?_ (by assumption)))))

set_option maxHeartbeats 400000 in
theorem rmul_fit (k n l m : Int) (s t : ByteArray) (w : World) (h1 : (Val.nullOr 1 ⟨k, n, s⟩ && Val.nullOr 1 ⟨l, m, t⟩) = true) (h3 : (k == 0) = false) (h4 : (l == 0) = false) (h5 : (n != 0) = true) (h5' : n ≠ 0)
    (hw : wrap64 (n * m) = n * m)
    (h : (wrap64 ((wrap64 (n * m)).tdiv n) != m) = false ∧ ((n == -1) = false ∨ (n == -1) = true ∧ (m == -9223372036854775808) = false)) :
    Calls Tryd.prog 88 #[(Val.mk k n s).v, (Val.mk l m t).v] w fun e w' => e = .returned (.tuple #[(num (n * m)).v, .int .i64 0]) ∧ Below w.heap.size w w' := by
  have H1 := Lib.hid h1
  have Hw := Lib.hid hw
  clear h1 hw
  rcases h with ⟨h6, h7 | ⟨h7, h8⟩⟩
  all_goals go_enter Tryd.func88, Tryd.ntmps88
  all_goals go_wp2_with (first | (go_at_call 105; go_must (refine (of_any 1 ⟨_, _, _⟩ ⟨_, _, _⟩ _).mono ?_; rintro e w1 ⟨rfl, hb⟩; obtain ⟨hc, hz, hf⟩ := kept hb; have hz2 : w.heap.size + 1 + 1 < w1.heap.size := hz _ (by first | (simp; done) | (simp; omega) | assumption); have hz1 : w.heap.size + 1 < w1.heap.size := hz _ (by first | (simp; done) | (simp; omega) | assumption); have hz0 : w.heap.size < w1.heap.size := hz _ (by first | (simp; done) | (simp; omega) | assumption); rw [H1.out])))
  all_goals go_quiet (fail)
  all_goals go_wp2_with (first | (go_at_call 106; go_must (refine (one_any _ _).mono ?_; rintro e w1 ⟨rfl, hb⟩; obtain ⟨hc, hz, hf⟩ := kept hb; (try simp only [World.heap_drewN, World.cell?_drewN, World.frozen?_drewN] at hc hz hf); have hz2 : w.heap.size + 1 + 1 < w1.heap.size := hz _ (by first | (simp; done) | (simp; omega) | assumption); have hz1 : w.heap.size + 1 < w1.heap.size := hz _ (by first | (simp; done) | (simp; omega) | assumption); have hz0 : w.heap.size < w1.heap.size := hz _ (by first | (simp; done) | (simp; omega) | assumption))))
  all_goals rw [Hw.out]
  all_goals (refine bodyPost_ret (v := .tuple #[(num (n * m)).v, .int .i64 0]) (by simp [results, Tryd.results88, go_sem, *]) rfl ⟨by (rfl), ?_⟩; (repeat (first | exact ext_refl _ | assumption | (refine ext_alloc ?_ _) | (refine ext_drewN ?_ _) | refine ext_drew ?_ | (refine ext_set (by first | (simp; done) | (simp; omega)) _ ?_) | (refine ext_trans ?_ (by assumption)))))

theorem rmul_any (x y : Val) (w : World) (hx : inR x.n = true) (hy : inR y.n = true) :
    Calls Tryd.prog 88 #[x.v, y.v] w fun e w' => e = .returned (.tuple #[(arith 6 x y).1.v, .int .i64 (arith 6 x y).2]) ∧ Below w.heap.size w w' := by
  obtain ⟨k, n, s⟩ := x
  obtain ⟨l, m, t⟩ := y
  cases h1 : (Val.nullOr 1 ⟨k, n, s⟩ && Val.nullOr 1 ⟨l, m, t⟩)
  · rw [show arith 6 ⟨k, n, s⟩ ⟨l, m, t⟩ = (nul, 1) by simp only [arith, h1]; rfl]
    exact rmul_no k n l m s t w h1
  cases h3 : k == 0
  rotate_left
  · rw [show arith 6 ⟨k, n, s⟩ ⟨l, m, t⟩ = (nul, 0) by simp only [arith, h1, h3]; rfl]
    exact rmul_null k n l m s t w h1 (.inl h3)
  cases h4 : l == 0
  rotate_left
  · rw [show arith 6 ⟨k, n, s⟩ ⟨l, m, t⟩ = (nul, 0) by simp only [arith, h1, h3, h4]; rfl]
    exact rmul_null k n l m s t w h1 (.inr ⟨h3, h4⟩)
  by_cases h0 : n = 0
  · subst h0
    rw [show arith 6 ⟨k, 0, s⟩ ⟨l, m, t⟩ = (num 0, 0) by simp only [arith, h1, h3, h4, comp6, Int.zero_mul]; rfl]
    exact rmul_zero k l m s t w h1 h3 h4
  have hm := mul_fits' n m hx hy h0
  cases h5 : inR (n * m)
  · rw [show arith 6 ⟨k, n, s⟩ ⟨l, m, t⟩ = (nul, 3) by simp only [arith, h1, h3, h4, comp6, h5]; rfl]
    rw [h5] at hm
    refine rmul_over k n l m s t w h1 h3 h4 (by simpa using h0) h0 ?_
    cases h6 : (wrap64 ((wrap64 (n * m)).tdiv n) != m)
    · rw [h6] at hm
      exact .inr ⟨rfl, by simpa using hm⟩
    · exact .inl rfl
  · rw [show arith 6 ⟨k, n, s⟩ ⟨l, m, t⟩ = (num (n * m), 0) by simp only [arith, h1, h3, h4, comp6, h5]; rfl]
    rw [h5] at hm
    refine rmul_fit k n l m s t w h1 h3 h4 (by simpa using h0) h0 (wrap_of _ h5) ?_
    rw [Bool.not_true, Bool.or_eq_false_iff, Bool.and_eq_false_iff] at hm
    refine ⟨hm.1, ?_⟩
    cases h7 : n == -1
    · exact .inl rfl
    · rcases hm.2 with h | h
      · rw [h7] at h; cases h
      · exact .inr ⟨rfl, h⟩

set_option maxHeartbeats 400000 in
theorem rdiv_zero (k n l : Int) (s t : ByteArray) (w : World) (h1 : (Val.nullOr 1 ⟨k, n, s⟩ && Val.nullOr 1 ⟨l, 0, t⟩) = true) (h3 : (k == 0) = false) (h4 : (l == 0) = false) :
    Calls Tryd.prog 89 #[(Val.mk k n s).v, (Val.mk l 0 t).v] w fun e w' => e = .returned (.tuple #[nul.v, .int .i64 4]) ∧ Below w.heap.size w w' := by
  have H1 := Lib.hid h1
  clear h1
  go_enter Tryd.func89, Tryd.ntmps89
  go_wp2_with (first | (go_at_call 105; go_must (refine (of_any 1 ⟨_, _, _⟩ ⟨_, _, _⟩ _).mono ?_; rintro e w1 ⟨rfl, hb⟩; obtain ⟨hc, hz, hf⟩ := kept hb; have hz2 : w.heap.size + 1 + 1 < w1.heap.size := hz _ (by first | (simp; done) | (simp; omega) | assumption); have hz1 : w.heap.size + 1 < w1.heap.size := hz _ (by first | (simp; done) | (simp; omega) | assumption); have hz0 : w.heap.size < w1.heap.size := hz _ (by first | (simp; done) | (simp; omega) | assumption); rw [H1.out])))
  (refine bodyPost_ret (v := .tuple #[nul.v, .int .i64 4]) (by simp [results, Tryd.results89, go_sem, *]) rfl ⟨by (rfl), ?_⟩; (repeat (first | exact ext_refl _ | assumption | (refine ext_alloc ?_ _) | (refine ext_drewN ?_ _) | refine ext_drew ?_ | (refine ext_set (by first | (simp; done) | (simp; omega)) _ ?_) | (refine ext_trans ?_ (by assumption)))))

set_option maxHeartbeats 400000 in
theorem rdiv_over (k l : Int) (s t : ByteArray) (w : World) (h1 : (Val.nullOr 1 ⟨k, -9223372036854775808, s⟩ && Val.nullOr 1 ⟨l, -1, t⟩) = true) (h3 : (k == 0) = false) (h4 : (l == 0) = false) :
    Calls Tryd.prog 89 #[(Val.mk k (-9223372036854775808) s).v, (Val.mk l (-1) t).v] w fun e w' => e = .returned (.tuple #[nul.v, .int .i64 3]) ∧ Below w.heap.size w w' := by
  have H1 := Lib.hid h1
  clear h1
  go_enter Tryd.func89, Tryd.ntmps89
  go_wp2_with (first | (go_at_call 105; go_must (refine (of_any 1 ⟨_, _, _⟩ ⟨_, _, _⟩ _).mono ?_; rintro e w1 ⟨rfl, hb⟩; obtain ⟨hc, hz, hf⟩ := kept hb; have hz2 : w.heap.size + 1 + 1 < w1.heap.size := hz _ (by first | (simp; done) | (simp; omega) | assumption); have hz1 : w.heap.size + 1 < w1.heap.size := hz _ (by first | (simp; done) | (simp; omega) | assumption); have hz0 : w.heap.size < w1.heap.size := hz _ (by first | (simp; done) | (simp; omega) | assumption); rw [H1.out])))
  (refine bodyPost_ret (v := .tuple #[nul.v, .int .i64 3]) (by simp [results, Tryd.results89, go_sem, *]) rfl ⟨by (rfl), ?_⟩; (repeat (first | exact ext_refl _ | assumption | (refine ext_alloc ?_ _) | (refine ext_drewN ?_ _) | refine ext_drew ?_ | (refine ext_set (by first | (simp; done) | (simp; omega)) _ ?_) | (refine ext_trans ?_ (by assumption)))))

set_option maxHeartbeats 400000 in
theorem rdiv_fit (k n l m : Int) (s t : ByteArray) (w : World) (h1 : (Val.nullOr 1 ⟨k, n, s⟩ && Val.nullOr 1 ⟨l, m, t⟩) = true) (h3 : (k == 0) = false) (h4 : (l == 0) = false) (h5 : (m == 0) = false) (h5' : m ≠ 0)
    (hw : wrap64 (n.tdiv m) = n.tdiv m) (h : (n == -9223372036854775808) = false ∨ (n == -9223372036854775808) = true ∧ (m == -1) = false) :
    Calls Tryd.prog 89 #[(Val.mk k n s).v, (Val.mk l m t).v] w fun e w' => e = .returned (.tuple #[(num (n.tdiv m)).v, .int .i64 0]) ∧ Below w.heap.size w w' := by
  have H1 := Lib.hid h1
  have Hw := Lib.hid hw
  clear h1 hw
  rcases h with h6 | ⟨h6, h7⟩
  all_goals go_enter Tryd.func89, Tryd.ntmps89
  all_goals go_wp2_with (first | (go_at_call 105; go_must (refine (of_any 1 ⟨_, _, _⟩ ⟨_, _, _⟩ _).mono ?_; rintro e w1 ⟨rfl, hb⟩; obtain ⟨hc, hz, hf⟩ := kept hb; have hz2 : w.heap.size + 1 + 1 < w1.heap.size := hz _ (by first | (simp; done) | (simp; omega) | assumption); have hz1 : w.heap.size + 1 < w1.heap.size := hz _ (by first | (simp; done) | (simp; omega) | assumption); have hz0 : w.heap.size < w1.heap.size := hz _ (by first | (simp; done) | (simp; omega) | assumption); rw [H1.out])) | (go_at_call 106; go_must (refine (one_any _ _).mono ?_; rintro e w1 ⟨rfl, hb⟩; obtain ⟨hc, hz, hf⟩ := kept hb; have hz2 : w.heap.size + 1 + 1 < w1.heap.size := hz _ (by first | (simp; done) | (simp; omega) | assumption); have hz1 : w.heap.size + 1 < w1.heap.size := hz _ (by first | (simp; done) | (simp; omega) | assumption); have hz0 : w.heap.size < w1.heap.size := hz _ (by first | (simp; done) | (simp; omega) | assumption))))
  all_goals rw [Hw.out]
  all_goals (refine bodyPost_ret (v := .tuple #[(num (n.tdiv m)).v, .int .i64 0]) (by simp [results, Tryd.results89, go_sem, *]) rfl ⟨by (rfl), ?_⟩; (repeat (first | exact ext_refl _ | assumption | (refine ext_alloc ?_ _) | (refine ext_drewN ?_ _) | refine ext_drew ?_ | (refine ext_set (by first | (simp; done) | (simp; omega)) _ ?_) | (refine ext_trans ?_ (by assumption)))))

theorem rdiv_any (x y : Val) (w : World) (hx : inR x.n = true) :
    Calls Tryd.prog 89 #[x.v, y.v] w fun e w' => e = .returned (.tuple #[(arith 7 x y).1.v, .int .i64 (arith 7 x y).2]) ∧ Below w.heap.size w w' := by
  obtain ⟨k, n, s⟩ := x
  obtain ⟨l, m, t⟩ := y
  cases h1 : (Val.nullOr 1 ⟨k, n, s⟩ && Val.nullOr 1 ⟨l, m, t⟩)
  · rw [show arith 7 ⟨k, n, s⟩ ⟨l, m, t⟩ = (nul, 1) by simp only [arith, h1]; rfl]
    exact rdiv_no k n l m s t w h1
  cases h3 : k == 0
  rotate_left
  · rw [show arith 7 ⟨k, n, s⟩ ⟨l, m, t⟩ = (nul, 0) by simp only [arith, h1, h3]; rfl]
    exact rdiv_null k n l m s t w h1 (.inl h3)
  cases h4 : l == 0
  rotate_left
  · rw [show arith 7 ⟨k, n, s⟩ ⟨l, m, t⟩ = (nul, 0) by simp only [arith, h1, h3, h4]; rfl]
    exact rdiv_null k n l m s t w h1 (.inr ⟨h3, h4⟩)
  by_cases h0 : m = 0
  · subst h0
    rw [show arith 7 ⟨k, n, s⟩ ⟨l, 0, t⟩ = (nul, 4) by simp only [arith, h1, h3, h4]; rfl]
    exact rdiv_zero k n l s t w h1 h3 h4
  have h0' : (m == 0) = false := by simpa using h0
  have hm := div_fits n m hx h0
  cases h5 : inR (n.tdiv m)
  · rw [show arith 7 ⟨k, n, s⟩ ⟨l, m, t⟩ = (nul, 3) by simp only [arith, h1, h3, h4, h0', comp7, h5]; rfl]
    rw [h5, Bool.or_eq_false_iff] at hm
    have e1 : n = -9223372036854775808 := by simpa using hm.1
    have e2 : m = -1 := by simpa using hm.2
    subst e1 e2
    exact rdiv_over k l s t w h1 h3 h4
  · rw [show arith 7 ⟨k, n, s⟩ ⟨l, m, t⟩ = (num (n.tdiv m), 0) by simp only [arith, h1, h3, h4, h0', comp7, h5]; rfl]
    rw [h5, Bool.or_eq_true] at hm
    refine rdiv_fit k n l m s t w h1 h3 h4 h0' h0 (wrap_of _ h5) ?_
    cases h7 : n == -9223372036854775808
    · exact .inl rfl
    · refine .inr ⟨rfl, ?_⟩
      rcases hm with h | h
      · rw [bne, h7] at h; cases h
      · rw [bne, Bool.not_eq_true'] at h; exact h

set_option maxHeartbeats 400000 in
theorem rneg_any (x : Val) (w : World) (hx : inR x.n = true) :
    Calls Tryd.prog 90 #[x.v] w fun e w' => e = .returned (.tuple #[(arith 5 (num 0) x).1.v, .int .i64 (arith 5 (num 0) x).2]) ∧ Below w.heap.size w w' := by
  obtain ⟨k, n, s⟩ := x
  have h0 : Val.nullOr 1 (num 0) = true := by simp [Val.nullOr, Val.right]
  obtain ⟨hn0, hn1⟩ : -9223372036854775808 ≤ n ∧ n ≤ 9223372036854775807 := inR_both hx
  cases h1 : (Val.nullOr 1 ⟨k, n, s⟩ && Val.nullOr 1 ⟨k, n, s⟩)
  · have h2 : Val.nullOr 1 ⟨k, n, s⟩ = false := by simpa using h1
    rw [show arith 5 (num 0) ⟨k, n, s⟩ = (nul, 1) by simp only [arith, h0, h2]; rfl]
    have H1 := Lib.hid h1
    clear h1 h2 hx h0
    go_enter Tryd.func90, Tryd.ntmps90
    go_wp2_with (first | (go_at_call 105; go_must (refine (of_any 1 ⟨_, _, _⟩ ⟨_, _, _⟩ _).mono ?_; rintro e w1 ⟨rfl, hb⟩; obtain ⟨hc, hz, hf⟩ := kept hb; have hz1 : w.heap.size + 1 < w1.heap.size := hz _ (by first | (simp; done) | (simp; omega) | assumption); have hz0 : w.heap.size < w1.heap.size := hz _ (by first | (simp; done) | (simp; omega) | assumption); rw [H1.out])))
    (refine bodyPost_ret (v := .tuple #[nul.v, .int .i64 1]) (by simp [results, Tryd.results90, go_sem, *]) rfl ⟨by (rfl), ?_⟩; (repeat (first | exact ext_refl _ | assumption | (refine ext_alloc ?_ _) | (refine ext_drewN ?_ _) | refine ext_drew ?_ | (refine ext_set (by first | (simp; done) | (simp; omega)) _ ?_) | (refine ext_trans ?_ (by assumption)))))
  have h2 : Val.nullOr 1 ⟨k, n, s⟩ = true := by simpa using h1
  have H1 := Lib.hid h1
  clear h1
  cases h3 : k == 0
  rotate_left
  · rw [show arith 5 (num 0) ⟨k, n, s⟩ = (nul, 0) by simp only [arith, h0, h2, h3]; rfl]
    clear h2 hx h0
    go_enter Tryd.func90, Tryd.ntmps90
    go_wp2_with (first | (go_at_call 105; go_must (refine (of_any 1 ⟨_, _, _⟩ ⟨_, _, _⟩ _).mono ?_; rintro e w1 ⟨rfl, hb⟩; obtain ⟨hc, hz, hf⟩ := kept hb; have hz1 : w.heap.size + 1 < w1.heap.size := hz _ (by first | (simp; done) | (simp; omega) | assumption); have hz0 : w.heap.size < w1.heap.size := hz _ (by first | (simp; done) | (simp; omega) | assumption); rw [H1.out])))
    (refine bodyPost_ret (v := .tuple #[nul.v, .int .i64 0]) (by simp [results, Tryd.results90, go_sem, *]) rfl ⟨by (rfl), ?_⟩; (repeat (first | exact ext_refl _ | assumption | (refine ext_alloc ?_ _) | (refine ext_drewN ?_ _) | refine ext_drew ?_ | (refine ext_set (by first | (simp; done) | (simp; omega)) _ ?_) | (refine ext_trans ?_ (by assumption)))))
  by_cases h4 : n = -9223372036854775808
  · subst h4
    rw [show arith 5 (num 0) ⟨k, -9223372036854775808, s⟩ = (nul, 3) by simp only [arith, h0, h2, h3]; rfl]
    clear h2 hx h0
    go_enter Tryd.func90, Tryd.ntmps90
    go_wp2_with (first | (go_at_call 105; go_must (refine (of_any 1 ⟨_, _, _⟩ ⟨_, _, _⟩ _).mono ?_; rintro e w1 ⟨rfl, hb⟩; obtain ⟨hc, hz, hf⟩ := kept hb; have hz1 : w.heap.size + 1 < w1.heap.size := hz _ (by first | (simp; done) | (simp; omega) | assumption); have hz0 : w.heap.size < w1.heap.size := hz _ (by first | (simp; done) | (simp; omega) | assumption); rw [H1.out])))
    (refine bodyPost_ret (v := .tuple #[nul.v, .int .i64 3]) (by simp [results, Tryd.results90, go_sem, *]) rfl ⟨by (rfl), ?_⟩; (repeat (first | exact ext_refl _ | assumption | (refine ext_alloc ?_ _) | (refine ext_drewN ?_ _) | refine ext_drew ?_ | (refine ext_set (by first | (simp; done) | (simp; omega)) _ ?_) | (refine ext_trans ?_ (by assumption)))))
  · have h5 : inR (0 - n) = true := by rw [inR_iff]; omega
    rw [show arith 5 (num 0) ⟨k, n, s⟩ = (num (-n), 0) by simp only [arith, h0, h2, h3, comp5, h5]; rw [Int.zero_sub]; rfl]
    have h6 : (n == -9223372036854775808) = false := by simpa using h4
    have hn2 : -9223372036854775807 ≤ n := by omega
    clear h2 hx h0 h4 h5
    go_enter Tryd.func90, Tryd.ntmps90
    go_wp2_with (first | (go_at_call 105; go_must (refine (of_any 1 ⟨_, _, _⟩ ⟨_, _, _⟩ _).mono ?_; rintro e w1 ⟨rfl, hb⟩; obtain ⟨hc, hz, hf⟩ := kept hb; have hz1 : w.heap.size + 1 < w1.heap.size := hz _ (by first | (simp; done) | (simp; omega) | assumption); have hz0 : w.heap.size < w1.heap.size := hz _ (by first | (simp; done) | (simp; omega) | assumption); rw [H1.out])) | (go_at_call 106; go_must (refine (one_any _ _).mono ?_; rintro e w1 ⟨rfl, hb⟩; obtain ⟨hc, hz, hf⟩ := kept hb; have hz1 : w.heap.size + 1 < w1.heap.size := hz _ (by first | (simp; done) | (simp; omega) | assumption); have hz0 : w.heap.size < w1.heap.size := hz _ (by first | (simp; done) | (simp; omega) | assumption))))
    (refine bodyPost_ret (v := .tuple #[(num (-n)).v, .int .i64 0]) (by simp [results, Tryd.results90, go_sem, *]) rfl ⟨by (rfl), ?_⟩; (repeat (first | exact ext_refl _ | assumption | (refine ext_alloc ?_ _) | (refine ext_drewN ?_ _) | refine ext_drew ?_ | (refine ext_set (by first | (simp; done) | (simp; omega)) _ ?_) | (refine ext_trans ?_ (by assumption)))))

end Go.Proofs.YthdnbcdcfaocmaaDoor
