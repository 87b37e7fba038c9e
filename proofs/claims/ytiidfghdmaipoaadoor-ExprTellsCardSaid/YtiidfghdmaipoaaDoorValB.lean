/- What package value answers to sums, differences, products, quotients: one sentence a function, for every value whose numbers fit. -/
import Derived.Test.YtiidfghdmaipoaaDoorValA
import Derived.Test.YtiidfghdmaipoaaDoorValM
namespace Go.Proofs.YtiidfghdmaipoaaDoor
open Go.RowKit

/-- What is reckoned. -/
def comp (op a b : Int) : Int := if op = 4 then a + b else if op = 5 then a - b else if op = 6 then a * b else a.tdiv b

theorem comp4 (a b : Int) : comp 4 a b = a + b := rfl
theorem comp5 (a b : Int) : comp 5 a b = a - b := rfl
theorem comp6 (a b : Int) : comp 6 a b = a * b := rfl
theorem comp7 (a b : Int) : comp 7 a b = a.tdiv b := rfl

theorem ret2b {v : Value} {p q : Bool} (h : p = q) : Ending.returned (.tuple #[v, .bool p]) = .returned (.tuple #[v, .bool q]) := by rw [h]

set_option maxHeartbeats 400000 in
theorem multiply_any (a b : Int) (w : World) (ha : inR a = true) (hb : inR b = true) :
    Calls Tryd.prog 92 #[.int .i64 a, .int .i64 b] w fun e w' => e = .returned (.tuple #[.int .i64 (wrap64 (a * b)), .bool (inR (a * b))]) ∧ w = w' := by
  have Ha := Lib.hid ha
  have Hb := Lib.hid hb
  clear ha hb
  cases h1 : a == 0
  · cases h2 : b == 0
    · have ha0 : a ≠ 0 := by simpa using h1
      have hb0 : b ≠ 0 := by simpa using h2
      have Hm := Lib.hid (mul_fits a b Ha.out Hb.out ha0 hb0)
      go_enter Tryd.func92, Tryd.ntmps92
      go_wp2
      all_goals go_ret2
      all_goals refine ⟨ret2b ?_, rfl⟩
      all_goals rw [← Hm.out]
      all_goals first | (simp [*]; done) | (simp [*]; cases decide (a < 0) <;> cases decide (b < 0) <;> rfl)
    · have hb0 : b = 0 := by simpa using h2
      subst hb0
      go_enter Tryd.func92, Tryd.ntmps92
      go_wp2
      all_goals go_ret2
      all_goals exact ⟨by rw [Int.mul_zero]; show Ending.returned (.tuple #[.int .i64 0, .bool true]) = _; simp [wrap64, inR], rfl⟩
  · have ha0 : a = 0 := by simpa using h1
    subst ha0
    go_enter Tryd.func92, Tryd.ntmps92
    go_wp2
    all_goals go_ret2
    all_goals exact ⟨by rw [Int.zero_mul]; show Ending.returned (.tuple #[.int .i64 0, .bool true]) = _; simp [wrap64, inR], rfl⟩

set_option maxHeartbeats 400000 in
theorem compute_any (op a b : Int) (w : World) (hop : op = 4 ∨ op = 5 ∨ op = 6 ∨ op = 7 ∧ b ≠ 0) (ha : inR a = true) (hb : inR b = true) :
    Calls Tryd.prog 83 #[.int .i64 op, .int .i64 a, .int .i64 b] w fun e w' => e = .returned (.tuple #[.int .i64 (wrap64 (comp op a b)), .bool (inR (comp op a b))]) ∧ w = w' := by
  have Ha := Lib.hid ha
  have Hb := Lib.hid hb
  clear ha hb
  rcases hop with rfl | rfl | rfl | ⟨rfl, hb0⟩
  · rw [comp4]
    have Hm := Lib.hid (add_fits a b Ha.out Hb.out)
    go_enter Tryd.func83, Tryd.ntmps83
    go_wp2
    go_ret2
    exact ⟨ret2b Hm.out, rfl⟩
  · rw [comp5]
    have Hm := Lib.hid (sub_fits a b Ha.out Hb.out)
    go_enter Tryd.func83, Tryd.ntmps83
    go_wp2
    go_ret2
    exact ⟨ret2b Hm.out, rfl⟩
  · rw [comp6]
    go_enter Tryd.func83, Tryd.ntmps83
    go_wp2_with (first | (go_at_call 92; go_must (refine (multiply_any _ _ _ Ha.out Hb.out).mono ?_; rintro e w1 ⟨rfl, rfl⟩)))
    go_ret2
    exact ⟨rfl, rfl⟩
  · rw [comp7]
    have Hm := Lib.hid (div_fits a b Ha.out hb0)
    cases h1 : a == -9223372036854775808
    · have h2 : (a != -9223372036854775808) = true := by simp [bne, h1]
      go_enter Tryd.func83, Tryd.ntmps83
      go_wp2
      go_ret2
      refine ⟨?_, rfl⟩
      rw [← Hm.out, h2]
      simp
    · have ha0 : a = -9223372036854775808 := by simpa using h1
      subst ha0
      go_enter Tryd.func83, Tryd.ntmps83
      go_wp2
      go_ret2
      refine ⟨?_, rfl⟩
      rw [← Hm.out]
      simp

/-- What Add, Sub, Mul, Div answer. -/
def arith (op : Int) (x y : Val) : Val × Int :=
  if x.nullOr 1 && y.nullOr 1 then
    if x.k == 0 || y.k == 0 then (nul, 0) else if op == 7 && y.n == 0 then (nul, 4) else if inR (comp op x.n y.n) then (num (comp op x.n y.n), 0) else (nul, 3)
  else (nul, 1)

set_option maxHeartbeats 400000 in
/-- One walk of 'arithmetic', once each test is decided. -/
theorem arithmetic_no (op k n l m : Int) (s t : ByteArray) (w : World) (r : Val × Int) (h : Val.nullOr 1 ⟨k, n, s⟩ = false ∨ Val.nullOr 1 ⟨k, n, s⟩ = true ∧ Val.nullOr 1 ⟨l, m, t⟩ = false) (he : r = (nul, 1)) :
    Calls Tryd.prog 71 #[.int .i64 op, (Val.mk k n s).v, (Val.mk l m t).v] w fun e w' => e = .returned (.tuple #[r.1.v, .int .i64 r.2]) ∧ Below w.heap.size w w' := by
  subst he
  rcases h with h1 | ⟨h1, h2⟩
  · have H1 := Lib.hid h1
    clear h1
    go_enter Tryd.func71, Tryd.ntmps71
    go_wp2_with (first | (go_at_call 75; go_must (refine (nullOr_any _ ⟨_, _, _⟩ _).mono ?_; rintro e w1 ⟨rfl, hb⟩; obtain ⟨hc, hz, hf⟩ := kept hb; have hz2 : w.heap.size + 1 + 1 < w1.heap.size := hz _ (by first | (simp; done) | (simp; omega) | assumption); have hz1 : w.heap.size + 1 < w1.heap.size := hz _ (by first | (simp; done) | (simp; omega) | assumption); have hz0 : w.heap.size < w1.heap.size := hz _ (by first | (simp; done) | (simp; omega) | assumption); rw [H1.out])))
    (refine bodyPost_ret (v := .tuple #[nul.v, .int .i64 1]) (by simp [results, Tryd.results71, go_sem, *]) rfl ⟨by (rfl), ?_⟩; (repeat (first | exact ext_refl _ | assumption | (refine ext_alloc ?_ _) | (refine ext_drewN ?_ _) | refine ext_drew ?_ | (refine ext_set (by first | (simp; done) | (simp; omega)) _ ?_) | (refine ext_trans ?_ (by assumption)))))
  · have H1 := Lib.hid h1
    have H2 := Lib.hid h2
    clear h1 h2
    go_enter Tryd.func71, Tryd.ntmps71
    go_wp2_with (first | (go_at_call 75; go_must (refine (nullOr_any _ ⟨_, _, _⟩ _).mono ?_; rintro e w1 ⟨rfl, hb⟩; obtain ⟨hc, hz, hf⟩ := kept hb; have hz2 : w.heap.size + 1 + 1 < w1.heap.size := hz _ (by first | (simp; done) | (simp; omega) | assumption); have hz1 : w.heap.size + 1 < w1.heap.size := hz _ (by first | (simp; done) | (simp; omega) | assumption); have hz0 : w.heap.size < w1.heap.size := hz _ (by first | (simp; done) | (simp; omega) | assumption); first | rw [H1.out] | rw [H2.out])))
    (refine bodyPost_ret (v := .tuple #[nul.v, .int .i64 1]) (by simp [results, Tryd.results71, go_sem, *]) rfl ⟨by (rfl), ?_⟩; (repeat (first | exact ext_refl _ | assumption | (refine ext_alloc ?_ _) | (refine ext_drewN ?_ _) | refine ext_drew ?_ | (refine ext_set (by first | (simp; done) | (simp; omega)) _ ?_) | (refine ext_trans ?_ (by assumption)))))

set_option maxHeartbeats 400000 in
theorem arithmetic_null (op k n l m : Int) (s t : ByteArray) (w : World) (r : Val × Int) (h1 : Val.nullOr 1 ⟨k, n, s⟩ = true) (h2 : Val.nullOr 1 ⟨l, m, t⟩ = true) (h : (k == 0) = true ∨ (k == 0) = false ∧ (l == 0) = true) (he : r = (nul, 0)) :
    Calls Tryd.prog 71 #[.int .i64 op, (Val.mk k n s).v, (Val.mk l m t).v] w fun e w' => e = .returned (.tuple #[r.1.v, .int .i64 r.2]) ∧ Below w.heap.size w w' := by
  subst he
  have H1 := Lib.hid h1
  have H2 := Lib.hid h2
  clear h1 h2
  rcases h with h3 | ⟨h3, h4⟩
  all_goals go_enter Tryd.func71, Tryd.ntmps71
  all_goals go_wp2_with (first | (go_at_call 75; go_must (refine (nullOr_any _ ⟨_, _, _⟩ _).mono ?_; rintro e w1 ⟨rfl, hb⟩; obtain ⟨hc, hz, hf⟩ := kept hb; have hz2 : w.heap.size + 1 + 1 < w1.heap.size := hz _ (by first | (simp; done) | (simp; omega) | assumption); have hz1 : w.heap.size + 1 < w1.heap.size := hz _ (by first | (simp; done) | (simp; omega) | assumption); have hz0 : w.heap.size < w1.heap.size := hz _ (by first | (simp; done) | (simp; omega) | assumption); first | rw [H1.out] | rw [H2.out])) | (go_at_call 76; go_must (refine (isNull_any ⟨_, _, _⟩ _).mono ?_; rintro e w1 ⟨rfl, hb⟩; obtain ⟨hc, hz, hf⟩ := kept hb; have hz2 : w.heap.size + 1 + 1 < w1.heap.size := hz _ (by first | (simp; done) | (simp; omega) | assumption); have hz1 : w.heap.size + 1 < w1.heap.size := hz _ (by first | (simp; done) | (simp; omega) | assumption); have hz0 : w.heap.size < w1.heap.size := hz _ (by first | (simp; done) | (simp; omega) | assumption))))
  all_goals (refine bodyPost_ret (v := .tuple #[nul.v, .int .i64 0]) (by simp [results, Tryd.results71, go_sem, *]) rfl ⟨by (rfl), ?_⟩; (repeat (first | exact ext_refl _ | assumption | (refine ext_alloc ?_ _) | (refine ext_drewN ?_ _) | refine ext_drew ?_ | (refine ext_set (by first | (simp; done) | (simp; omega)) _ ?_) | (refine ext_trans ?_ (by assumption)))))

set_option maxHeartbeats 400000 in
theorem arithmetic_zero (k n l : Int) (s t : ByteArray) (w : World) (r : Val × Int) (h1 : Val.nullOr 1 ⟨k, n, s⟩ = true) (h2 : Val.nullOr 1 ⟨l, 0, t⟩ = true) (h3 : (k == 0) = false) (h4 : (l == 0) = false) (he : r = (nul, 4)) :
    Calls Tryd.prog 71 #[.int .i64 7, (Val.mk k n s).v, (Val.mk l 0 t).v] w fun e w' => e = .returned (.tuple #[r.1.v, .int .i64 r.2]) ∧ Below w.heap.size w w' := by
  subst he
  have H1 := Lib.hid h1
  have H2 := Lib.hid h2
  clear h1 h2
  go_enter Tryd.func71, Tryd.ntmps71
  go_wp2_with (first | (go_at_call 75; go_must (refine (nullOr_any _ ⟨_, _, _⟩ _).mono ?_; rintro e w1 ⟨rfl, hb⟩; obtain ⟨hc, hz, hf⟩ := kept hb; have hz2 : w.heap.size + 1 + 1 < w1.heap.size := hz _ (by first | (simp; done) | (simp; omega) | assumption); have hz1 : w.heap.size + 1 < w1.heap.size := hz _ (by first | (simp; done) | (simp; omega) | assumption); have hz0 : w.heap.size < w1.heap.size := hz _ (by first | (simp; done) | (simp; omega) | assumption); first | rw [H1.out] | rw [H2.out])) | (go_at_call 76; go_must (refine (isNull_any ⟨_, _, _⟩ _).mono ?_; rintro e w1 ⟨rfl, hb⟩; obtain ⟨hc, hz, hf⟩ := kept hb; have hz2 : w.heap.size + 1 + 1 < w1.heap.size := hz _ (by first | (simp; done) | (simp; omega) | assumption); have hz1 : w.heap.size + 1 < w1.heap.size := hz _ (by first | (simp; done) | (simp; omega) | assumption); have hz0 : w.heap.size < w1.heap.size := hz _ (by first | (simp; done) | (simp; omega) | assumption))))
  (refine bodyPost_ret (v := .tuple #[nul.v, .int .i64 4]) (by simp [results, Tryd.results71, go_sem, *]) rfl ⟨by (rfl), ?_⟩; (repeat (first | exact ext_refl _ | assumption | (refine ext_alloc ?_ _) | (refine ext_drewN ?_ _) | refine ext_drew ?_ | (refine ext_set (by first | (simp; done) | (simp; omega)) _ ?_) | (refine ext_trans ?_ (by assumption)))))

set_option maxHeartbeats 400000 in
theorem arithmetic_num (op k n l m : Int) (s t : ByteArray) (w : World) (r : Val × Int) (h1 : Val.nullOr 1 ⟨k, n, s⟩ = true) (h2 : Val.nullOr 1 ⟨l, m, t⟩ = true) (h3 : (k == 0) = false) (h4 : (l == 0) = false)
    (hx : inR n = true) (hy : inR m = true) (hop : op = 4 ∨ op = 5 ∨ op = 6 ∨ op = 7 ∧ m ≠ 0) (h : (op == 7) = false ∨ (op == 7) = true ∧ (m == 0) = false) (he : r = if inR (comp op n m) then (num (comp op n m), 0) else (nul, 3)) :
    Calls Tryd.prog 71 #[.int .i64 op, (Val.mk k n s).v, (Val.mk l m t).v] w fun e w' => e = .returned (.tuple #[r.1.v, .int .i64 r.2]) ∧ Below w.heap.size w w' := by
  have H1 := Lib.hid h1
  have H2 := Lib.hid h2
  have Hx := Lib.hid hx
  have Hy := Lib.hid hy
  have Hop := Lib.hid hop
  clear h1 h2 hx hy hop
  cases hi : inR (comp op n m)
  · rw [hi, if_neg Bool.false_ne_true] at he
    subst he
    have Hi := Lib.hid hi
    clear hi
    rcases h with h5 | ⟨h5, h6⟩
    all_goals go_enter Tryd.func71, Tryd.ntmps71
    all_goals go_wp2_with (first | (go_at_call 75; go_must (refine (nullOr_any _ ⟨_, _, _⟩ _).mono ?_; rintro e w1 ⟨rfl, hb⟩; obtain ⟨hc, hz, hf⟩ := kept hb; have hz2 : w.heap.size + 1 + 1 < w1.heap.size := hz _ (by first | (simp; done) | (simp; omega) | assumption); have hz1 : w.heap.size + 1 < w1.heap.size := hz _ (by first | (simp; done) | (simp; omega) | assumption); have hz0 : w.heap.size < w1.heap.size := hz _ (by first | (simp; done) | (simp; omega) | assumption); first | rw [H1.out] | rw [H2.out])) | (go_at_call 76; go_must (refine (isNull_any ⟨_, _, _⟩ _).mono ?_; rintro e w1 ⟨rfl, hb⟩; obtain ⟨hc, hz, hf⟩ := kept hb; have hz2 : w.heap.size + 1 + 1 < w1.heap.size := hz _ (by first | (simp; done) | (simp; omega) | assumption); have hz1 : w.heap.size + 1 < w1.heap.size := hz _ (by first | (simp; done) | (simp; omega) | assumption); have hz0 : w.heap.size < w1.heap.size := hz _ (by first | (simp; done) | (simp; omega) | assumption))) | (go_at_call 83; go_must (refine (compute_any _ _ _ _ Hop.out Hx.out Hy.out).mono ?_; rintro e w1 ⟨rfl, rfl⟩; rw [Hi.out])) | (go_at_call 72; go_must (refine (number_any _ _).mono ?_; rintro e w1 ⟨rfl, hb⟩; obtain ⟨hc, hz, hf⟩ := kept hb; have hz2 : w.heap.size + 1 + 1 < w1.heap.size := hz _ (by first | (simp; done) | (simp; omega) | assumption); have hz1 : w.heap.size + 1 < w1.heap.size := hz _ (by first | (simp; done) | (simp; omega) | assumption); have hz0 : w.heap.size < w1.heap.size := hz _ (by first | (simp; done) | (simp; omega) | assumption))))
    all_goals (refine bodyPost_ret (v := .tuple #[nul.v, .int .i64 3]) (by simp [results, Tryd.results71, go_sem, *]) rfl ⟨by (rfl), ?_⟩; (repeat (first | exact ext_refl _ | assumption | (refine ext_alloc ?_ _) | (refine ext_drewN ?_ _) | refine ext_drew ?_ | (refine ext_set (by first | (simp; done) | (simp; omega)) _ ?_) | (refine ext_trans ?_ (by assumption)))))
  · rw [hi, if_pos rfl] at he
    subst he
    have Hi := Lib.hid hi
    have Hw := Lib.hid (wrap_of _ hi)
    clear hi
    rcases h with h5 | ⟨h5, h6⟩
    all_goals go_enter Tryd.func71, Tryd.ntmps71
    all_goals go_wp2_with (first | (go_at_call 75; go_must (refine (nullOr_any _ ⟨_, _, _⟩ _).mono ?_; rintro e w1 ⟨rfl, hb⟩; obtain ⟨hc, hz, hf⟩ := kept hb; have hz2 : w.heap.size + 1 + 1 < w1.heap.size := hz _ (by first | (simp; done) | (simp; omega) | assumption); have hz1 : w.heap.size + 1 < w1.heap.size := hz _ (by first | (simp; done) | (simp; omega) | assumption); have hz0 : w.heap.size < w1.heap.size := hz _ (by first | (simp; done) | (simp; omega) | assumption); first | rw [H1.out] | rw [H2.out])) | (go_at_call 76; go_must (refine (isNull_any ⟨_, _, _⟩ _).mono ?_; rintro e w1 ⟨rfl, hb⟩; obtain ⟨hc, hz, hf⟩ := kept hb; have hz2 : w.heap.size + 1 + 1 < w1.heap.size := hz _ (by first | (simp; done) | (simp; omega) | assumption); have hz1 : w.heap.size + 1 < w1.heap.size := hz _ (by first | (simp; done) | (simp; omega) | assumption); have hz0 : w.heap.size < w1.heap.size := hz _ (by first | (simp; done) | (simp; omega) | assumption))) | (go_at_call 83; go_must (refine (compute_any _ _ _ _ Hop.out Hx.out Hy.out).mono ?_; rintro e w1 ⟨rfl, rfl⟩; rw [Hi.out, Hw.out])) | (go_at_call 72; go_must (refine (number_any _ _).mono ?_; rintro e w1 ⟨rfl, hb⟩; obtain ⟨hc, hz, hf⟩ := kept hb; have hz2 : w.heap.size + 1 + 1 < w1.heap.size := hz _ (by first | (simp; done) | (simp; omega) | assumption); have hz1 : w.heap.size + 1 < w1.heap.size := hz _ (by first | (simp; done) | (simp; omega) | assumption); have hz0 : w.heap.size < w1.heap.size := hz _ (by first | (simp; done) | (simp; omega) | assumption))))
    all_goals (refine bodyPost_ret (v := .tuple #[(num (comp op n m)).v, .int .i64 0]) (by simp [results, Tryd.results71, go_sem, *]) rfl ⟨by (rfl), ?_⟩; (repeat (first | exact ext_refl _ | assumption | (refine ext_alloc ?_ _) | (refine ext_drewN ?_ _) | refine ext_drew ?_ | (refine ext_set (by first | (simp; done) | (simp; omega)) _ ?_) | (refine ext_trans ?_ (by assumption)))))

theorem arithmetic_any (op : Int) (x y : Val) (w : World) (hop : op = 4 ∨ op = 5 ∨ op = 6 ∨ op = 7) (hx : inR x.n = true) (hy : inR y.n = true) :
    Calls Tryd.prog 71 #[.int .i64 op, x.v, y.v] w fun e w' => e = .returned (.tuple #[(arith op x y).1.v, .int .i64 (arith op x y).2]) ∧ Below w.heap.size w w' := by
  obtain ⟨k, n, s⟩ := x
  obtain ⟨l, m, t⟩ := y
  cases h1 : Val.nullOr 1 ⟨k, n, s⟩
  · exact arithmetic_no op k n l m s t w _ (.inl h1) (by simp [arith, h1])
  cases h2 : Val.nullOr 1 ⟨l, m, t⟩
  · exact arithmetic_no op k n l m s t w _ (.inr ⟨h1, h2⟩) (by simp [arith, h2])
  cases h3 : k == 0
  rotate_left
  · exact arithmetic_null op k n l m s t w _ h1 h2 (.inl h3) (by simp [arith, h1, h2, h3])
  cases h4 : l == 0
  rotate_left
  · exact arithmetic_null op k n l m s t w _ h1 h2 (.inr ⟨h3, h4⟩) (by simp [arith, h1, h2, h4])
  by_cases h5 : op = 7
  · by_cases h6 : m = 0
    · subst h5 h6
      exact arithmetic_zero k n l s t w _ h1 h2 h3 h4 (by simp [arith, h1, h2, h3, h4])
    · exact arithmetic_num op k n l m s t w _ h1 h2 h3 h4 hx hy (by omega) (.inr ⟨by simpa using h5, by simpa using h6⟩) (by simp [arith, h1, h2, h3, h4, h5, h6])
  · exact arithmetic_num op k n l m s t w _ h1 h2 h3 h4 hx hy (by omega) (.inl (by simpa using h5)) (by simp [arith, h1, h2, h3, h4, h5])

end Go.Proofs.YtiidfghdmaipoaaDoor
