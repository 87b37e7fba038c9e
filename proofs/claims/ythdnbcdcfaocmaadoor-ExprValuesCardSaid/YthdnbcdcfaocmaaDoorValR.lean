/- What the document's own answers to sums, differences, products, quotients are, for every value whose numbers fit. -/
import Derived.Test.YthdnbcdcfaocmaaDoorValB
import Derived.Deep.RegionWith
namespace Go.Proofs.YthdnbcdcfaocmaaDoor
open Go.RowKit
set_option maxRecDepth 100000

theorem inR_both {z : Int} (h : inR z = true) : -9223372036854775808 ≤ z ∧ z ≤ 9223372036854775807 := (inR_iff z).1 h

set_option maxHeartbeats 400000 in
theorem radd_no (k n l m : Int) (s t : ByteArray) (w : World) (h1 : (Val.nullOr 1 ⟨k, n, s⟩ && Val.nullOr 1 ⟨l, m, t⟩) = false) :
    Calls Tryd.prog 86 #[(Val.mk k n s).v, (Val.mk l m t).v] w fun e w' => e = .returned (.tuple #[nul.v, .int .i64 1]) ∧ Below w.heap.size w w' := by
  have H1 := Lib.hid h1
  clear h1
  go_enter Tryd.func86, Tryd.ntmps86
  go_wp2_with (first | (go_at_call 105; go_must (refine (of_any 1 ⟨_, _, _⟩ ⟨_, _, _⟩ _).mono ?_; rintro e w1 ⟨rfl, hb⟩; obtain ⟨hc, hz, hf⟩ := kept hb; have hz2 : w.heap.size + 1 + 1 < w1.heap.size := hz _ (by first | (simp; done) | (simp; omega) | assumption); have hz1 : w.heap.size + 1 < w1.heap.size := hz _ (by first | (simp; done) | (simp; omega) | assumption); have hz0 : w.heap.size < w1.heap.size := hz _ (by first | (simp; done) | (simp; omega) | assumption); rw [H1.out])))
  (refine bodyPost_ret (v := .tuple #[nul.v, .int .i64 1]) (by simp [results, Tryd.results86, go_sem, *]) rfl ⟨by (rfl), ?_⟩; (repeat (first | exact ext_refl _ | assumption | (refine ext_alloc ?_ _) | (refine ext_drewN ?_ _) | refine ext_drew ?_ | (refine ext_set (by first | (simp; done) | (simp; omega)) _ ?_) | (refine ext_trans ?_ (by assumption)))))

set_option maxHeartbeats 400000 in
theorem radd_null (k n l m : Int) (s t : ByteArray) (w : World) (h1 : (Val.nullOr 1 ⟨k, n, s⟩ && Val.nullOr 1 ⟨l, m, t⟩) = true) (h : (k == 0) = true ∨ (k == 0) = false ∧ (l == 0) = true) :
    Calls Tryd.prog 86 #[(Val.mk k n s).v, (Val.mk l m t).v] w fun e w' => e = .returned (.tuple #[nul.v, .int .i64 0]) ∧ Below w.heap.size w w' := by
  have H1 := Lib.hid h1
  clear h1
  rcases h with h3 | ⟨h3, h4⟩
  all_goals go_enter Tryd.func86, Tryd.ntmps86
  all_goals go_wp2_with (first | (go_at_call 105; go_must (refine (of_any 1 ⟨_, _, _⟩ ⟨_, _, _⟩ _).mono ?_; rintro e w1 ⟨rfl, hb⟩; obtain ⟨hc, hz, hf⟩ := kept hb; have hz2 : w.heap.size + 1 + 1 < w1.heap.size := hz _ (by first | (simp; done) | (simp; omega) | assumption); have hz1 : w.heap.size + 1 < w1.heap.size := hz _ (by first | (simp; done) | (simp; omega) | assumption); have hz0 : w.heap.size < w1.heap.size := hz _ (by first | (simp; done) | (simp; omega) | assumption); rw [H1.out])))
  all_goals (refine bodyPost_ret (v := .tuple #[nul.v, .int .i64 0]) (by simp [results, Tryd.results86, go_sem, *]) rfl ⟨by (rfl), ?_⟩; (repeat (first | exact ext_refl _ | assumption | (refine ext_alloc ?_ _) | (refine ext_drewN ?_ _) | refine ext_drew ?_ | (refine ext_set (by first | (simp; done) | (simp; omega)) _ ?_) | (refine ext_trans ?_ (by assumption)))))

set_option maxHeartbeats 400000 in
theorem radd_over (k n l m : Int) (s t : ByteArray) (w : World) (h1 : (Val.nullOr 1 ⟨k, n, s⟩ && Val.nullOr 1 ⟨l, m, t⟩) = true) (h3 : (k == 0) = false) (h4 : (l == 0) = false) (hx : inR n = true) (hy : inR m = true)
    (h : 0 < m ∧ 9223372036854775807 - m < n ∨ m < 0 ∧ n < -9223372036854775808 - m) :
    Calls Tryd.prog 86 #[(Val.mk k n s).v, (Val.mk l m t).v] w fun e w' => e = .returned (.tuple #[nul.v, .int .i64 3]) ∧ Below w.heap.size w w' := by
  have H1 := Lib.hid h1
  obtain ⟨hn0, hn1⟩ := inR_both hx
  obtain ⟨hm0, hm1⟩ := inR_both hy
  clear h1 hx hy
  rcases h with ⟨h5, h6⟩ | ⟨h5, h6⟩
  all_goals go_enter Tryd.func86, Tryd.ntmps86
  all_goals go_wp2_with (first | (go_at_call 105; go_must (refine (of_any 1 ⟨_, _, _⟩ ⟨_, _, _⟩ _).mono ?_; rintro e w1 ⟨rfl, hb⟩; obtain ⟨hc, hz, hf⟩ := kept hb; have hz2 : w.heap.size + 1 + 1 < w1.heap.size := hz _ (by first | (simp; done) | (simp; omega) | assumption); have hz1 : w.heap.size + 1 < w1.heap.size := hz _ (by first | (simp; done) | (simp; omega) | assumption); have hz0 : w.heap.size < w1.heap.size := hz _ (by first | (simp; done) | (simp; omega) | assumption); rw [H1.out])))
  all_goals (refine bodyPost_ret (v := .tuple #[nul.v, .int .i64 3]) (by simp [results, Tryd.results86, go_sem, *]) rfl ⟨by (rfl), ?_⟩; (repeat (first | exact ext_refl _ | assumption | (refine ext_alloc ?_ _) | (refine ext_drewN ?_ _) | refine ext_drew ?_ | (refine ext_set (by first | (simp; done) | (simp; omega)) _ ?_) | (refine ext_trans ?_ (by assumption)))))

set_option maxHeartbeats 400000 in
theorem radd_fit (k n l m : Int) (s t : ByteArray) (w : World) (h1 : (Val.nullOr 1 ⟨k, n, s⟩ && Val.nullOr 1 ⟨l, m, t⟩) = true) (h3 : (k == 0) = false) (h4 : (l == 0) = false) (hx : inR n = true) (hy : inR m = true)
    (h : 0 < m ∧ n ≤ 9223372036854775807 - m ∨ m < 0 ∧ -9223372036854775808 - m ≤ n ∨ m = 0) :
    Calls Tryd.prog 86 #[(Val.mk k n s).v, (Val.mk l m t).v] w fun e w' => e = .returned (.tuple #[(num (n + m)).v, .int .i64 0]) ∧ Below w.heap.size w w' := by
  have H1 := Lib.hid h1
  obtain ⟨hn0, hn1⟩ := inR_both hx
  obtain ⟨hm0, hm1⟩ := inR_both hy
  clear h1 hx hy
  rcases h with ⟨h5, h6⟩ | ⟨h5, h6⟩ | h5
  · go_enter Tryd.func86, Tryd.ntmps86
    go_wp2_with (first | (go_at_call 105; go_must (refine (of_any 1 ⟨_, _, _⟩ ⟨_, _, _⟩ _).mono ?_; rintro e w1 ⟨rfl, hb⟩; obtain ⟨hc, hz, hf⟩ := kept hb; have hz2 : w.heap.size + 1 + 1 < w1.heap.size := hz _ (by first | (simp; done) | (simp; omega) | assumption); have hz1 : w.heap.size + 1 < w1.heap.size := hz _ (by first | (simp; done) | (simp; omega) | assumption); have hz0 : w.heap.size < w1.heap.size := hz _ (by first | (simp; done) | (simp; omega) | assumption); rw [H1.out])) | (go_at_call 106; go_must (refine (one_any _ _).mono ?_; rintro e w1 ⟨rfl, hb⟩; obtain ⟨hc, hz, hf⟩ := kept hb; have hz2 : w.heap.size + 1 + 1 < w1.heap.size := hz _ (by first | (simp; done) | (simp; omega) | assumption); have hz1 : w.heap.size + 1 < w1.heap.size := hz _ (by first | (simp; done) | (simp; omega) | assumption); have hz0 : w.heap.size < w1.heap.size := hz _ (by first | (simp; done) | (simp; omega) | assumption))))
    (refine bodyPost_ret (v := .tuple #[(num (n + m)).v, .int .i64 0]) (by simp [results, Tryd.results86, go_sem, *]) rfl ⟨by (rfl), ?_⟩; (repeat (first | exact ext_refl _ | assumption | (refine ext_alloc ?_ _) | (refine ext_drewN ?_ _) | refine ext_drew ?_ | (refine ext_set (by first | (simp; done) | (simp; omega)) _ ?_) | (refine ext_trans ?_ (by assumption)))))
  · go_enter Tryd.func86, Tryd.ntmps86
    go_wp2_with (first | (go_at_call 105; go_must (refine (of_any 1 ⟨_, _, _⟩ ⟨_, _, _⟩ _).mono ?_; rintro e w1 ⟨rfl, hb⟩; obtain ⟨hc, hz, hf⟩ := kept hb; have hz2 : w.heap.size + 1 + 1 < w1.heap.size := hz _ (by first | (simp; done) | (simp; omega) | assumption); have hz1 : w.heap.size + 1 < w1.heap.size := hz _ (by first | (simp; done) | (simp; omega) | assumption); have hz0 : w.heap.size < w1.heap.size := hz _ (by first | (simp; done) | (simp; omega) | assumption); rw [H1.out])) | (go_at_call 106; go_must (refine (one_any _ _).mono ?_; rintro e w1 ⟨rfl, hb⟩; obtain ⟨hc, hz, hf⟩ := kept hb; have hz2 : w.heap.size + 1 + 1 < w1.heap.size := hz _ (by first | (simp; done) | (simp; omega) | assumption); have hz1 : w.heap.size + 1 < w1.heap.size := hz _ (by first | (simp; done) | (simp; omega) | assumption); have hz0 : w.heap.size < w1.heap.size := hz _ (by first | (simp; done) | (simp; omega) | assumption))))
    (refine bodyPost_ret (v := .tuple #[(num (n + m)).v, .int .i64 0]) (by simp [results, Tryd.results86, go_sem, *]) rfl ⟨by (rfl), ?_⟩; (repeat (first | exact ext_refl _ | assumption | (refine ext_alloc ?_ _) | (refine ext_drewN ?_ _) | refine ext_drew ?_ | (refine ext_set (by first | (simp; done) | (simp; omega)) _ ?_) | (refine ext_trans ?_ (by assumption)))))
  · subst h5
    go_enter Tryd.func86, Tryd.ntmps86
    go_wp2_with (first | (go_at_call 105; go_must (refine (of_any 1 ⟨_, _, _⟩ ⟨_, _, _⟩ _).mono ?_; rintro e w1 ⟨rfl, hb⟩; obtain ⟨hc, hz, hf⟩ := kept hb; have hz2 : w.heap.size + 1 + 1 < w1.heap.size := hz _ (by first | (simp; done) | (simp; omega) | assumption); have hz1 : w.heap.size + 1 < w1.heap.size := hz _ (by first | (simp; done) | (simp; omega) | assumption); have hz0 : w.heap.size < w1.heap.size := hz _ (by first | (simp; done) | (simp; omega) | assumption); rw [H1.out])) | (go_at_call 106; go_must (refine (one_any _ _).mono ?_; rintro e w1 ⟨rfl, hb⟩; obtain ⟨hc, hz, hf⟩ := kept hb; have hz2 : w.heap.size + 1 + 1 < w1.heap.size := hz _ (by first | (simp; done) | (simp; omega) | assumption); have hz1 : w.heap.size + 1 < w1.heap.size := hz _ (by first | (simp; done) | (simp; omega) | assumption); have hz0 : w.heap.size < w1.heap.size := hz _ (by first | (simp; done) | (simp; omega) | assumption))))
    (refine bodyPost_ret (v := .tuple #[(num n).v, .int .i64 0]) (by simp [results, Tryd.results86, go_sem, *]) rfl ⟨by (simp), ?_⟩; (repeat (first | exact ext_refl _ | assumption | (refine ext_alloc ?_ _) | (refine ext_drewN ?_ _) | refine ext_drew ?_ | (refine ext_set (by first | (simp; done) | (simp; omega)) _ ?_) | (refine ext_trans ?_ (by assumption)))))

theorem radd_any (x y : Val) (w : World) (hx : inR x.n = true) (hy : inR y.n = true) :
    Calls Tryd.prog 86 #[x.v, y.v] w fun e w' => e = .returned (.tuple #[(arith 4 x y).1.v, .int .i64 (arith 4 x y).2]) ∧ Below w.heap.size w w' := by
  obtain ⟨k, n, s⟩ := x
  obtain ⟨l, m, t⟩ := y
  cases h1 : (Val.nullOr 1 ⟨k, n, s⟩ && Val.nullOr 1 ⟨l, m, t⟩)
  · rw [show arith 4 ⟨k, n, s⟩ ⟨l, m, t⟩ = (nul, 1) by simp only [arith, h1]; rfl]
    exact radd_no k n l m s t w h1
  cases h3 : k == 0
  rotate_left
  · rw [show arith 4 ⟨k, n, s⟩ ⟨l, m, t⟩ = (nul, 0) by simp only [arith, h1, h3]; rfl]
    exact radd_null k n l m s t w h1 (.inl h3)
  cases h4 : l == 0
  rotate_left
  · rw [show arith 4 ⟨k, n, s⟩ ⟨l, m, t⟩ = (nul, 0) by simp only [arith, h1, h3, h4]; rfl]
    exact radd_null k n l m s t w h1 (.inr ⟨h3, h4⟩)
  have hx' : -9223372036854775808 ≤ n ∧ n ≤ 9223372036854775807 := inR_both hx
  have hy' : -9223372036854775808 ≤ m ∧ m ≤ 9223372036854775807 := inR_both hy
  cases h5 : inR (n + m)
  · rw [show arith 4 ⟨k, n, s⟩ ⟨l, m, t⟩ = (nul, 3) by simp only [arith, h1, h3, h4, comp4, h5]; rfl]
    rw [inR_no] at h5
    exact radd_over k n l m s t w h1 h3 h4 hx hy (by omega)
  · rw [show arith 4 ⟨k, n, s⟩ ⟨l, m, t⟩ = (num (n + m), 0) by simp only [arith, h1, h3, h4, comp4, h5]; rfl]
    rw [inR_iff] at h5
    exact radd_fit k n l m s t w h1 h3 h4 hx hy (by omega)

set_option maxHeartbeats 400000 in
theorem rsub_no (k n l m : Int) (s t : ByteArray) (w : World) (h1 : (Val.nullOr 1 ⟨k, n, s⟩ && Val.nullOr 1 ⟨l, m, t⟩) = false) :
    Calls Tryd.prog 87 #[(Val.mk k n s).v, (Val.mk l m t).v] w fun e w' => e = .returned (.tuple #[nul.v, .int .i64 1]) ∧ Below w.heap.size w w' := by
  have H1 := Lib.hid h1
  clear h1
  go_enter Tryd.func87, Tryd.ntmps87
  go_wp2_with (first | (go_at_call 105; go_must (refine (of_any 1 ⟨_, _, _⟩ ⟨_, _, _⟩ _).mono ?_; rintro e w1 ⟨rfl, hb⟩; obtain ⟨hc, hz, hf⟩ := kept hb; have hz2 : w.heap.size + 1 + 1 < w1.heap.size := hz _ (by first | (simp; done) | (simp; omega) | assumption); have hz1 : w.heap.size + 1 < w1.heap.size := hz _ (by first | (simp; done) | (simp; omega) | assumption); have hz0 : w.heap.size < w1.heap.size := hz _ (by first | (simp; done) | (simp; omega) | assumption); rw [H1.out])))
  (refine bodyPost_ret (v := .tuple #[nul.v, .int .i64 1]) (by simp [results, Tryd.results87, go_sem, *]) rfl ⟨by (rfl), ?_⟩; (repeat (first | exact ext_refl _ | assumption | (refine ext_alloc ?_ _) | (refine ext_drewN ?_ _) | refine ext_drew ?_ | (refine ext_set (by first | (simp; done) | (simp; omega)) _ ?_) | (refine ext_trans ?_ (by assumption)))))

set_option maxHeartbeats 400000 in
theorem rsub_null (k n l m : Int) (s t : ByteArray) (w : World) (h1 : (Val.nullOr 1 ⟨k, n, s⟩ && Val.nullOr 1 ⟨l, m, t⟩) = true) (h : (k == 0) = true ∨ (k == 0) = false ∧ (l == 0) = true) :
    Calls Tryd.prog 87 #[(Val.mk k n s).v, (Val.mk l m t).v] w fun e w' => e = .returned (.tuple #[nul.v, .int .i64 0]) ∧ Below w.heap.size w w' := by
  have H1 := Lib.hid h1
  clear h1
  rcases h with h3 | ⟨h3, h4⟩
  all_goals go_enter Tryd.func87, Tryd.ntmps87
  all_goals go_wp2_with (first | (go_at_call 105; go_must (refine (of_any 1 ⟨_, _, _⟩ ⟨_, _, _⟩ _).mono ?_; rintro e w1 ⟨rfl, hb⟩; obtain ⟨hc, hz, hf⟩ := kept hb; have hz2 : w.heap.size + 1 + 1 < w1.heap.size := hz _ (by first | (simp; done) | (simp; omega) | assumption); have hz1 : w.heap.size + 1 < w1.heap.size := hz _ (by first | (simp; done) | (simp; omega) | assumption); have hz0 : w.heap.size < w1.heap.size := hz _ (by first | (simp; done) | (simp; omega) | assumption); rw [H1.out])))
  all_goals (refine bodyPost_ret (v := .tuple #[nul.v, .int .i64 0]) (by simp [results, Tryd.results87, go_sem, *]) rfl ⟨by (rfl), ?_⟩; (repeat (first | exact ext_refl _ | assumption | (refine ext_alloc ?_ _) | (refine ext_drewN ?_ _) | refine ext_drew ?_ | (refine ext_set (by first | (simp; done) | (simp; omega)) _ ?_) | (refine ext_trans ?_ (by assumption)))))

set_option maxHeartbeats 400000 in
theorem rsub_over (k n l m : Int) (s t : ByteArray) (w : World) (h1 : (Val.nullOr 1 ⟨k, n, s⟩ && Val.nullOr 1 ⟨l, m, t⟩) = true) (h3 : (k == 0) = false) (h4 : (l == 0) = false) (hx : inR n = true) (hy : inR m = true)
    (h : m < 0 ∧ 9223372036854775807 + m < n ∨ 0 < m ∧ n < -9223372036854775808 + m) :
    Calls Tryd.prog 87 #[(Val.mk k n s).v, (Val.mk l m t).v] w fun e w' => e = .returned (.tuple #[nul.v, .int .i64 3]) ∧ Below w.heap.size w w' := by
  have H1 := Lib.hid h1
  obtain ⟨hn0, hn1⟩ := inR_both hx
  obtain ⟨hm0, hm1⟩ := inR_both hy
  clear h1 hx hy
  rcases h with ⟨h5, h6⟩ | ⟨h5, h6⟩
  all_goals go_enter Tryd.func87, Tryd.ntmps87
  all_goals go_wp2_with (first | (go_at_call 105; go_must (refine (of_any 1 ⟨_, _, _⟩ ⟨_, _, _⟩ _).mono ?_; rintro e w1 ⟨rfl, hb⟩; obtain ⟨hc, hz, hf⟩ := kept hb; have hz2 : w.heap.size + 1 + 1 < w1.heap.size := hz _ (by first | (simp; done) | (simp; omega) | assumption); have hz1 : w.heap.size + 1 < w1.heap.size := hz _ (by first | (simp; done) | (simp; omega) | assumption); have hz0 : w.heap.size < w1.heap.size := hz _ (by first | (simp; done) | (simp; omega) | assumption); rw [H1.out])))
  all_goals (refine bodyPost_ret (v := .tuple #[nul.v, .int .i64 3]) (by simp [results, Tryd.results87, go_sem, *]) rfl ⟨by (rfl), ?_⟩; (repeat (first | exact ext_refl _ | assumption | (refine ext_alloc ?_ _) | (refine ext_drewN ?_ _) | refine ext_drew ?_ | (refine ext_set (by first | (simp; done) | (simp; omega)) _ ?_) | (refine ext_trans ?_ (by assumption)))))

set_option maxHeartbeats 400000 in
theorem rsub_fit (k n l m : Int) (s t : ByteArray) (w : World) (h1 : (Val.nullOr 1 ⟨k, n, s⟩ && Val.nullOr 1 ⟨l, m, t⟩) = true) (h3 : (k == 0) = false) (h4 : (l == 0) = false) (hx : inR n = true) (hy : inR m = true)
    (h : m < 0 ∧ n ≤ 9223372036854775807 + m ∨ 0 < m ∧ -9223372036854775808 + m ≤ n ∨ m = 0) :
    Calls Tryd.prog 87 #[(Val.mk k n s).v, (Val.mk l m t).v] w fun e w' => e = .returned (.tuple #[(num (n - m)).v, .int .i64 0]) ∧ Below w.heap.size w w' := by
  have H1 := Lib.hid h1
  obtain ⟨hn0, hn1⟩ := inR_both hx
  obtain ⟨hm0, hm1⟩ := inR_both hy
  clear h1 hx hy
  rcases h with ⟨h5, h6⟩ | ⟨h5, h6⟩ | h5
  · go_enter Tryd.func87, Tryd.ntmps87
    go_wp2_with (first | (go_at_call 105; go_must (refine (of_any 1 ⟨_, _, _⟩ ⟨_, _, _⟩ _).mono ?_; rintro e w1 ⟨rfl, hb⟩; obtain ⟨hc, hz, hf⟩ := kept hb; have hz2 : w.heap.size + 1 + 1 < w1.heap.size := hz _ (by first | (simp; done) | (simp; omega) | assumption); have hz1 : w.heap.size + 1 < w1.heap.size := hz _ (by first | (simp; done) | (simp; omega) | assumption); have hz0 : w.heap.size < w1.heap.size := hz _ (by first | (simp; done) | (simp; omega) | assumption); rw [H1.out])) | (go_at_call 106; go_must (refine (one_any _ _).mono ?_; rintro e w1 ⟨rfl, hb⟩; obtain ⟨hc, hz, hf⟩ := kept hb; have hz2 : w.heap.size + 1 + 1 < w1.heap.size := hz _ (by first | (simp; done) | (simp; omega) | assumption); have hz1 : w.heap.size + 1 < w1.heap.size := hz _ (by first | (simp; done) | (simp; omega) | assumption); have hz0 : w.heap.size < w1.heap.size := hz _ (by first | (simp; done) | (simp; omega) | assumption))))
    (refine bodyPost_ret (v := .tuple #[(num (n - m)).v, .int .i64 0]) (by simp [results, Tryd.results87, go_sem, *]) rfl ⟨by (rfl), ?_⟩; (repeat (first | exact ext_refl _ | assumption | (refine ext_alloc ?_ _) | (refine ext_drewN ?_ _) | refine ext_drew ?_ | (refine ext_set (by first | (simp; done) | (simp; omega)) _ ?_) | (refine ext_trans ?_ (by assumption)))))
  · go_enter Tryd.func87, Tryd.ntmps87
    go_wp2_with (first | (go_at_call 105; go_must (refine (of_any 1 ⟨_, _, _⟩ ⟨_, _, _⟩ _).mono ?_; rintro e w1 ⟨rfl, hb⟩; obtain ⟨hc, hz, hf⟩ := kept hb; have hz2 : w.heap.size + 1 + 1 < w1.heap.size := hz _ (by first | (simp; done) | (simp; omega) | assumption); have hz1 : w.heap.size + 1 < w1.heap.size := hz _ (by first | (simp; done) | (simp; omega) | assumption); have hz0 : w.heap.size < w1.heap.size := hz _ (by first | (simp; done) | (simp; omega) | assumption); rw [H1.out])) | (go_at_call 106; go_must (refine (one_any _ _).mono ?_; rintro e w1 ⟨rfl, hb⟩; obtain ⟨hc, hz, hf⟩ := kept hb; have hz2 : w.heap.size + 1 + 1 < w1.heap.size := hz _ (by first | (simp; done) | (simp; omega) | assumption); have hz1 : w.heap.size + 1 < w1.heap.size := hz _ (by first | (simp; done) | (simp; omega) | assumption); have hz0 : w.heap.size < w1.heap.size := hz _ (by first | (simp; done) | (simp; omega) | assumption))))
    (refine bodyPost_ret (v := .tuple #[(num (n - m)).v, .int .i64 0]) (by simp [results, Tryd.results87, go_sem, *]) rfl ⟨by (rfl), ?_⟩; (repeat (first | exact ext_refl _ | assumption | (refine ext_alloc ?_ _) | (refine ext_drewN ?_ _) | refine ext_drew ?_ | (refine ext_set (by first | (simp; done) | (simp; omega)) _ ?_) | (refine ext_trans ?_ (by assumption)))))
  · subst h5
    go_enter Tryd.func87, Tryd.ntmps87
    go_wp2_with (first | (go_at_call 105; go_must (refine (of_any 1 ⟨_, _, _⟩ ⟨_, _, _⟩ _).mono ?_; rintro e w1 ⟨rfl, hb⟩; obtain ⟨hc, hz, hf⟩ := kept hb; have hz2 : w.heap.size + 1 + 1 < w1.heap.size := hz _ (by first | (simp; done) | (simp; omega) | assumption); have hz1 : w.heap.size + 1 < w1.heap.size := hz _ (by first | (simp; done) | (simp; omega) | assumption); have hz0 : w.heap.size < w1.heap.size := hz _ (by first | (simp; done) | (simp; omega) | assumption); rw [H1.out])) | (go_at_call 106; go_must (refine (one_any _ _).mono ?_; rintro e w1 ⟨rfl, hb⟩; obtain ⟨hc, hz, hf⟩ := kept hb; have hz2 : w.heap.size + 1 + 1 < w1.heap.size := hz _ (by first | (simp; done) | (simp; omega) | assumption); have hz1 : w.heap.size + 1 < w1.heap.size := hz _ (by first | (simp; done) | (simp; omega) | assumption); have hz0 : w.heap.size < w1.heap.size := hz _ (by first | (simp; done) | (simp; omega) | assumption))))
    (refine bodyPost_ret (v := .tuple #[(num n).v, .int .i64 0]) (by simp [results, Tryd.results87, go_sem, *]) rfl ⟨by (simp), ?_⟩; (repeat (first | exact ext_refl _ | assumption | (refine ext_alloc ?_ _) | (refine ext_drewN ?_ _) | refine ext_drew ?_ | (refine ext_set (by first | (simp; done) | (simp; omega)) _ ?_) | (refine ext_trans ?_ (by assumption)))))

theorem rsub_any (x y : Val) (w : World) (hx : inR x.n = true) (hy : inR y.n = true) :
    Calls Tryd.prog 87 #[x.v, y.v] w fun e w' => e = .returned (.tuple #[(arith 5 x y).1.v, .int .i64 (arith 5 x y).2]) ∧ Below w.heap.size w w' := by
  obtain ⟨k, n, s⟩ := x
  obtain ⟨l, m, t⟩ := y
  cases h1 : (Val.nullOr 1 ⟨k, n, s⟩ && Val.nullOr 1 ⟨l, m, t⟩)
  · rw [show arith 5 ⟨k, n, s⟩ ⟨l, m, t⟩ = (nul, 1) by simp only [arith, h1]; rfl]
    exact rsub_no k n l m s t w h1
  cases h3 : k == 0
  rotate_left
  · rw [show arith 5 ⟨k, n, s⟩ ⟨l, m, t⟩ = (nul, 0) by simp only [arith, h1, h3]; rfl]
    exact rsub_null k n l m s t w h1 (.inl h3)
  cases h4 : l == 0
  rotate_left
  · rw [show arith 5 ⟨k, n, s⟩ ⟨l, m, t⟩ = (nul, 0) by simp only [arith, h1, h3, h4]; rfl]
    exact rsub_null k n l m s t w h1 (.inr ⟨h3, h4⟩)
  have hx' : -9223372036854775808 ≤ n ∧ n ≤ 9223372036854775807 := inR_both hx
  have hy' : -9223372036854775808 ≤ m ∧ m ≤ 9223372036854775807 := inR_both hy
  cases h5 : inR (n - m)
  · rw [show arith 5 ⟨k, n, s⟩ ⟨l, m, t⟩ = (nul, 3) by simp only [arith, h1, h3, h4, comp5, h5]; rfl]
    rw [inR_no] at h5
    exact rsub_over k n l m s t w h1 h3 h4 hx hy (by omega)
  · rw [show arith 5 ⟨k, n, s⟩ ⟨l, m, t⟩ = (num (n - m), 0) by simp only [arith, h1, h3, h4, comp5, h5]; rfl]
    rw [inR_iff] at h5
    exact rsub_fit k n l m s t w h1 h3 h4 hx hy (by omega)

end Go.Proofs.YthdnbcdcfaocmaaDoor
