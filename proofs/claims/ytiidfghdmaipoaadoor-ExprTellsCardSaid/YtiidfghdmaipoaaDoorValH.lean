/- What the document's own Compare answers, and what both Tests do. -/
import Derived.Test.YtiidfghdmaipoaaDoorValD
namespace Go.Proofs.YtiidfghdmaipoaaDoor
open Go.RowKit

def sgn (b : Bool) : Int := if b then -1 else 1

theorem ordI_self (a : Int) : ordI a a = 0 := by simp [ordI]
theorem ordI_ne {a b : Int} (h : a ≠ b) : ordI a b = sgn (decide (a < b)) := by
  unfold ordI sgn
  by_cases h1 : a < b
  · simp [h1]
  · simp [h1]; omega
theorem sgn_ne (b : Bool) : (sgn b != 0) = true := by cases b <;> rfl
theorem or3_one {x y z : Int} (h : (x != 0) = true) : or3 x y z = x := by simp only [or3, h, if_true]
theorem or3_two {y z : Int} (h : (y != 0) = true) : or3 0 y z = y := by simp only [or3, h, if_true]; rfl
theorem or3_three {z : Int} : or3 0 0 z = z := rfl

theorem cmp_k {k n l m : Int} {s t : ByteArray} (h : k ≠ l) : Val.cmp ⟨k, n, s⟩ ⟨l, m, t⟩ = sgn (decide (k < l)) := by
  unfold Val.cmp
  rw [ordI_ne h, or3_one (sgn_ne _)]
theorem cmp_n {k n m : Int} {s t : ByteArray} (h : n ≠ m) : Val.cmp ⟨k, n, s⟩ ⟨k, m, t⟩ = sgn (decide (n < m)) := by
  unfold Val.cmp
  rw [ordI_self, ordI_ne h, or3_two (sgn_ne _)]
theorem cmp_s {k n : Int} {s t : ByteArray} : Val.cmp ⟨k, n, s⟩ ⟨k, n, t⟩ = ordS s t := by
  unfold Val.cmp
  rw [ordI_self, ordI_self, or3_three]

theorem bytesLess_self : ∀ a : List UInt8, Op.bytesLess a a = false
  | [] => rfl
  | a :: x => by
    rw [Op.bytesLess, bytesLess_self x, Bool.and_false, Bool.or_false]
    simp

theorem ordS_same {s t : ByteArray} (h : (s.toList == t.toList) = true) : ordS s t = 0 := by
  have h2 : s.toList = t.toList := by simpa using h
  unfold ordS
  rw [h2, bytesLess_self]
  simp
theorem ordS_other {s t : ByteArray} (h : (s.toList == t.toList) = false) : ordS s t = sgn (Op.bytesLess s.toList t.toList) := by
  have h2 : ¬ s.toList = t.toList := by simpa using h
  unfold ordS sgn
  rw [if_neg h2]

def holdsB (op c : Int) : Bool :=
  if op = 9 then c == 0 else if op = 10 then c != 0 else if op = 11 then decide (c < 0) else if op = 12 then decide (c ≤ 0) else if op = 13 then decide (0 < c) else if op = 14 then decide (0 ≤ c) else false

set_option maxHeartbeats 400000 in
theorem holds_any (op c : Int) (w : World) :
    Calls Tryd.prog 77 #[.int .i64 op, .int .i64 c] w fun e w' => e = .returned (.bool (holdsB op c)) ∧ w = w' := by
  go_enter Tryd.func77, Tryd.ntmps77
  go_wp2
  all_goals go_ret
  all_goals refine ⟨?_, rfl⟩
  all_goals (simp_all [holdsB]; done)

def testable (op : Int) (x y : Val) : Bool := decide (9 ≤ op) && decide (op ≤ 14) && x.right && y.right && (x.k == 0 || y.k == 0 || x.k == y.k)
/-- What Test answers. -/
def testS (op : Int) (x y : Val) : Val × Int :=
  if testable op x y then (if x.k == 0 || y.k == 0 then (nul, 0) else (tru (bit (holdsB op (x.cmp y))), 0)) else (nul, 1)

/-- Why a comparison is refused. -/
def Refused (op : Int) (x y : Val) : Prop :=
  op < 9 ∨ (9 ≤ op ∧ 14 < op) ∨ (9 ≤ op ∧ op ≤ 14 ∧ x.right = false) ∨ (9 ≤ op ∧ op ≤ 14 ∧ x.right = true ∧ y.right = false) ∨
    (9 ≤ op ∧ op ≤ 14 ∧ x.right = true ∧ y.right = true ∧ (x.k == 0) = false ∧ (y.k == 0) = false ∧ (x.k != y.k) = true)

theorem refused {op : Int} {x y : Val} (h : testable op x y = false) : Refused op x y := by
  by_cases h1 : op < 9
  · exact .inl h1
  by_cases h2 : 14 < op
  · exact .inr (.inl ⟨by omega, h2⟩)
  have h3 : 9 ≤ op := by omega
  have h4 : op ≤ 14 := by omega
  cases h5 : x.right
  · exact .inr (.inr (.inl ⟨h3, h4, h5⟩))
  cases h6 : y.right
  · exact .inr (.inr (.inr (.inl ⟨h3, h4, h5, h6⟩)))
  simp only [testable, h3, h4, h5, h6, decide_true, Bool.true_and, Bool.or_eq_false_iff] at h
  exact .inr (.inr (.inr (.inr ⟨h3, h4, h5, h6, h.1.1, h.1.2, by rw [bne, h.2]; rfl⟩)))

set_option maxHeartbeats 400000 in
theorem test_low (op k n l m : Int) (s t : ByteArray) (w : World) (h : op < 9) (hn : (k == 0) = true ∨ (k == 0) = false ∧ (l == 0) = true ∨ (k == 0) = false ∧ (l == 0) = false) :
    Calls Tryd.prog 68 #[.int .i64 op, (Val.mk k n s).v, (Val.mk l m t).v] w fun e w' => e = .returned (.tuple #[nul.v, .int .i64 1]) ∧ Below w.heap.size w w' := by
  rcases hn with h3 | ⟨h3, h4⟩ | ⟨h3, h4⟩
  all_goals go_enter Tryd.func68, Tryd.ntmps68
  all_goals go_wp2_with (first | (go_at_call 76; go_must (refine (isNull_any ⟨_, _, _⟩ _).mono ?_; rintro e w1 ⟨rfl, hb⟩; obtain ⟨hc, hz, hf⟩ := kept hb; have hz2 : w.heap.size + 1 + 1 < w1.heap.size := hz _ (by first | (simp; done) | (simp; omega) | assumption); have hz1 : w.heap.size + 1 < w1.heap.size := hz _ (by first | (simp; done) | (simp; omega) | assumption); have hz0 : w.heap.size < w1.heap.size := hz _ (by first | (simp; done) | (simp; omega) | assumption))))
  all_goals (refine bodyPost_ret (v := .tuple #[nul.v, .int .i64 1]) (by simp [results, Tryd.results68, go_sem, *]) rfl ⟨by (rfl), ?_⟩; (repeat (first | exact ext_refl _ | assumption | (refine ext_alloc ?_ _) | (refine ext_drewN ?_ _) | refine ext_drew ?_ | (refine ext_set (by first | (simp; done) | (simp; omega)) _ ?_) | (refine ext_trans ?_ (by assumption)))))

set_option maxHeartbeats 400000 in
theorem test_high (op k n l m : Int) (s t : ByteArray) (w : World) (h : 9 ≤ op) (h' : 14 < op) (hn : (k == 0) = true ∨ (k == 0) = false ∧ (l == 0) = true ∨ (k == 0) = false ∧ (l == 0) = false) :
    Calls Tryd.prog 68 #[.int .i64 op, (Val.mk k n s).v, (Val.mk l m t).v] w fun e w' => e = .returned (.tuple #[nul.v, .int .i64 1]) ∧ Below w.heap.size w w' := by
  rcases hn with h3 | ⟨h3, h4⟩ | ⟨h3, h4⟩
  all_goals go_enter Tryd.func68, Tryd.ntmps68
  all_goals go_wp2_with (first | (go_at_call 76; go_must (refine (isNull_any ⟨_, _, _⟩ _).mono ?_; rintro e w1 ⟨rfl, hb⟩; obtain ⟨hc, hz, hf⟩ := kept hb; have hz2 : w.heap.size + 1 + 1 < w1.heap.size := hz _ (by first | (simp; done) | (simp; omega) | assumption); have hz1 : w.heap.size + 1 < w1.heap.size := hz _ (by first | (simp; done) | (simp; omega) | assumption); have hz0 : w.heap.size < w1.heap.size := hz _ (by first | (simp; done) | (simp; omega) | assumption))))
  all_goals (refine bodyPost_ret (v := .tuple #[nul.v, .int .i64 1]) (by simp [results, Tryd.results68, go_sem, *]) rfl ⟨by (rfl), ?_⟩; (repeat (first | exact ext_refl _ | assumption | (refine ext_alloc ?_ _) | (refine ext_drewN ?_ _) | refine ext_drew ?_ | (refine ext_set (by first | (simp; done) | (simp; omega)) _ ?_) | (refine ext_trans ?_ (by assumption)))))

set_option maxHeartbeats 400000 in
theorem test_one (op k n l m : Int) (s t : ByteArray) (w : World) (h : 9 ≤ op) (h' : op ≤ 14) (h1 : Val.right ⟨k, n, s⟩ = false) (hn : (k == 0) = true ∨ (k == 0) = false ∧ (l == 0) = true ∨ (k == 0) = false ∧ (l == 0) = false) :
    Calls Tryd.prog 68 #[.int .i64 op, (Val.mk k n s).v, (Val.mk l m t).v] w fun e w' => e = .returned (.tuple #[nul.v, .int .i64 1]) ∧ Below w.heap.size w w' := by
  have H1 := Lib.hid h1
  clear h1
  rcases hn with h3 | ⟨h3, h4⟩ | ⟨h3, h4⟩
  all_goals go_enter Tryd.func68, Tryd.ntmps68
  all_goals go_wp2_with (first | (go_at_call 76; go_must (refine (isNull_any ⟨_, _, _⟩ _).mono ?_; rintro e w1 ⟨rfl, hb⟩; obtain ⟨hc, hz, hf⟩ := kept hb; have hz2 : w.heap.size + 1 + 1 < w1.heap.size := hz _ (by first | (simp; done) | (simp; omega) | assumption); have hz1 : w.heap.size + 1 < w1.heap.size := hz _ (by first | (simp; done) | (simp; omega) | assumption); have hz0 : w.heap.size < w1.heap.size := hz _ (by first | (simp; done) | (simp; omega) | assumption))) | (go_at_call 70; go_must (refine (right_any ⟨_, _, _⟩ _).mono ?_; rintro e w1 ⟨rfl, hb⟩; obtain ⟨hc, hz, hf⟩ := kept hb; have hz2 : w.heap.size + 1 + 1 < w1.heap.size := hz _ (by first | (simp; done) | (simp; omega) | assumption); have hz1 : w.heap.size + 1 < w1.heap.size := hz _ (by first | (simp; done) | (simp; omega) | assumption); have hz0 : w.heap.size < w1.heap.size := hz _ (by first | (simp; done) | (simp; omega) | assumption); rw [H1.out])))
  all_goals (refine bodyPost_ret (v := .tuple #[nul.v, .int .i64 1]) (by simp [results, Tryd.results68, go_sem, *]) rfl ⟨by (rfl), ?_⟩; (repeat (first | exact ext_refl _ | assumption | (refine ext_alloc ?_ _) | (refine ext_drewN ?_ _) | refine ext_drew ?_ | (refine ext_set (by first | (simp; done) | (simp; omega)) _ ?_) | (refine ext_trans ?_ (by assumption)))))

set_option maxHeartbeats 400000 in
theorem test_two (op k n l m : Int) (s t : ByteArray) (w : World) (h : 9 ≤ op) (h' : op ≤ 14) (h1 : Val.right ⟨k, n, s⟩ = true) (h2 : Val.right ⟨l, m, t⟩ = false) (hn : (k == 0) = true ∨ (k == 0) = false ∧ (l == 0) = true ∨ (k == 0) = false ∧ (l == 0) = false) :
    Calls Tryd.prog 68 #[.int .i64 op, (Val.mk k n s).v, (Val.mk l m t).v] w fun e w' => e = .returned (.tuple #[nul.v, .int .i64 1]) ∧ Below w.heap.size w w' := by
  have H1 := Lib.hid h1
  have H2 := Lib.hid h2
  clear h1 h2
  rcases hn with h3 | ⟨h3, h4⟩ | ⟨h3, h4⟩
  all_goals go_enter Tryd.func68, Tryd.ntmps68
  all_goals go_wp2_with (first | (go_at_call 76; go_must (refine (isNull_any ⟨_, _, _⟩ _).mono ?_; rintro e w1 ⟨rfl, hb⟩; obtain ⟨hc, hz, hf⟩ := kept hb; have hz2 : w.heap.size + 1 + 1 < w1.heap.size := hz _ (by first | (simp; done) | (simp; omega) | assumption); have hz1 : w.heap.size + 1 < w1.heap.size := hz _ (by first | (simp; done) | (simp; omega) | assumption); have hz0 : w.heap.size < w1.heap.size := hz _ (by first | (simp; done) | (simp; omega) | assumption))) | (go_at_call 70; go_must (refine (right_any ⟨_, _, _⟩ _).mono ?_; rintro e w1 ⟨rfl, hb⟩; obtain ⟨hc, hz, hf⟩ := kept hb; have hz2 : w.heap.size + 1 + 1 < w1.heap.size := hz _ (by first | (simp; done) | (simp; omega) | assumption); have hz1 : w.heap.size + 1 < w1.heap.size := hz _ (by first | (simp; done) | (simp; omega) | assumption); have hz0 : w.heap.size < w1.heap.size := hz _ (by first | (simp; done) | (simp; omega) | assumption); first | rw [H1.out] | rw [H2.out])))
  all_goals (refine bodyPost_ret (v := .tuple #[nul.v, .int .i64 1]) (by simp [results, Tryd.results68, go_sem, *]) rfl ⟨by (rfl), ?_⟩; (repeat (first | exact ext_refl _ | assumption | (refine ext_alloc ?_ _) | (refine ext_drewN ?_ _) | refine ext_drew ?_ | (refine ext_set (by first | (simp; done) | (simp; omega)) _ ?_) | (refine ext_trans ?_ (by assumption)))))

set_option maxHeartbeats 400000 in
theorem test_kinds (op k n l m : Int) (s t : ByteArray) (w : World) (h : 9 ≤ op) (h' : op ≤ 14) (h1 : Val.right ⟨k, n, s⟩ = true) (h2 : Val.right ⟨l, m, t⟩ = true) (h3 : (k == 0) = false) (h4 : (l == 0) = false) (h5 : (k != l) = true) :
    Calls Tryd.prog 68 #[.int .i64 op, (Val.mk k n s).v, (Val.mk l m t).v] w fun e w' => e = .returned (.tuple #[nul.v, .int .i64 1]) ∧ Below w.heap.size w w' := by
  have H1 := Lib.hid h1
  have H2 := Lib.hid h2
  clear h1 h2
  go_enter Tryd.func68, Tryd.ntmps68
  go_wp2_with (first | (go_at_call 76; go_must (refine (isNull_any ⟨_, _, _⟩ _).mono ?_; rintro e w1 ⟨rfl, hb⟩; obtain ⟨hc, hz, hf⟩ := kept hb; have hz2 : w.heap.size + 1 + 1 < w1.heap.size := hz _ (by first | (simp; done) | (simp; omega) | assumption); have hz1 : w.heap.size + 1 < w1.heap.size := hz _ (by first | (simp; done) | (simp; omega) | assumption); have hz0 : w.heap.size < w1.heap.size := hz _ (by first | (simp; done) | (simp; omega) | assumption))) | (go_at_call 70; go_must (refine (right_any ⟨_, _, _⟩ _).mono ?_; rintro e w1 ⟨rfl, hb⟩; obtain ⟨hc, hz, hf⟩ := kept hb; have hz2 : w.heap.size + 1 + 1 < w1.heap.size := hz _ (by first | (simp; done) | (simp; omega) | assumption); have hz1 : w.heap.size + 1 < w1.heap.size := hz _ (by first | (simp; done) | (simp; omega) | assumption); have hz0 : w.heap.size < w1.heap.size := hz _ (by first | (simp; done) | (simp; omega) | assumption); first | rw [H1.out] | rw [H2.out])))
  (refine bodyPost_ret (v := .tuple #[nul.v, .int .i64 1]) (by simp [results, Tryd.results68, go_sem, *]) rfl ⟨by (rfl), ?_⟩; (repeat (first | exact ext_refl _ | assumption | (refine ext_alloc ?_ _) | (refine ext_drewN ?_ _) | refine ext_drew ?_ | (refine ext_set (by first | (simp; done) | (simp; omega)) _ ?_) | (refine ext_trans ?_ (by assumption)))))

set_option maxHeartbeats 400000 in
theorem test_null (op k n l m : Int) (s t : ByteArray) (w : World) (h : 9 ≤ op) (h' : op ≤ 14) (h1 : Val.right ⟨k, n, s⟩ = true) (h2 : Val.right ⟨l, m, t⟩ = true) (hn : (k == 0) = true ∨ (k == 0) = false ∧ (l == 0) = true) :
    Calls Tryd.prog 68 #[.int .i64 op, (Val.mk k n s).v, (Val.mk l m t).v] w fun e w' => e = .returned (.tuple #[nul.v, .int .i64 0]) ∧ Below w.heap.size w w' := by
  have H1 := Lib.hid h1
  have H2 := Lib.hid h2
  clear h1 h2
  rcases hn with h3 | ⟨h3, h4⟩
  all_goals go_enter Tryd.func68, Tryd.ntmps68
  all_goals go_wp2_with (first | (go_at_call 76; go_must (refine (isNull_any ⟨_, _, _⟩ _).mono ?_; rintro e w1 ⟨rfl, hb⟩; obtain ⟨hc, hz, hf⟩ := kept hb; have hz2 : w.heap.size + 1 + 1 < w1.heap.size := hz _ (by first | (simp; done) | (simp; omega) | assumption); have hz1 : w.heap.size + 1 < w1.heap.size := hz _ (by first | (simp; done) | (simp; omega) | assumption); have hz0 : w.heap.size < w1.heap.size := hz _ (by first | (simp; done) | (simp; omega) | assumption))) | (go_at_call 70; go_must (refine (right_any ⟨_, _, _⟩ _).mono ?_; rintro e w1 ⟨rfl, hb⟩; obtain ⟨hc, hz, hf⟩ := kept hb; have hz2 : w.heap.size + 1 + 1 < w1.heap.size := hz _ (by first | (simp; done) | (simp; omega) | assumption); have hz1 : w.heap.size + 1 < w1.heap.size := hz _ (by first | (simp; done) | (simp; omega) | assumption); have hz0 : w.heap.size < w1.heap.size := hz _ (by first | (simp; done) | (simp; omega) | assumption); first | rw [H1.out] | rw [H2.out])))
  all_goals (refine bodyPost_ret (v := .tuple #[nul.v, .int .i64 0]) (by simp [results, Tryd.results68, go_sem, *]) rfl ⟨by (rfl), ?_⟩; (repeat (first | exact ext_refl _ | assumption | (refine ext_alloc ?_ _) | (refine ext_drewN ?_ _) | refine ext_drew ?_ | (refine ext_set (by first | (simp; done) | (simp; omega)) _ ?_) | (refine ext_trans ?_ (by assumption)))))

set_option maxHeartbeats 400000 in
theorem test_said (op k n m : Int) (s t : ByteArray) (w : World) (h : 9 ≤ op) (h' : op ≤ 14) (h1 : Val.right ⟨k, n, s⟩ = true) (h2 : Val.right ⟨k, m, t⟩ = true) (h3 : (k == 0) = false) :
    Calls Tryd.prog 68 #[.int .i64 op, (Val.mk k n s).v, (Val.mk k m t).v] w fun e w' => e = .returned (.tuple #[(tru (bit (holdsB op (Val.cmp ⟨k, n, s⟩ ⟨k, m, t⟩)))).v, .int .i64 0]) ∧ Below w.heap.size w w' := by
  have H1 := Lib.hid h1
  have H2 := Lib.hid h2
  clear h1 h2
  cases hh : holdsB op (Val.cmp ⟨k, n, s⟩ ⟨k, m, t⟩)
  · have HH := Lib.hid hh
    clear hh
    go_enter Tryd.func68, Tryd.ntmps68
    go_wp2_with (first | (go_at_call 76; go_must (refine (isNull_any ⟨_, _, _⟩ _).mono ?_; rintro e w1 ⟨rfl, hb⟩; obtain ⟨hc, hz, hf⟩ := kept hb; have hz2 : w.heap.size + 1 + 1 < w1.heap.size := hz _ (by first | (simp; done) | (simp; omega) | assumption); have hz1 : w.heap.size + 1 < w1.heap.size := hz _ (by first | (simp; done) | (simp; omega) | assumption); have hz0 : w.heap.size < w1.heap.size := hz _ (by first | (simp; done) | (simp; omega) | assumption))) | (go_at_call 70; go_must (refine (right_any ⟨_, _, _⟩ _).mono ?_; rintro e w1 ⟨rfl, hb⟩; obtain ⟨hc, hz, hf⟩ := kept hb; have hz2 : w.heap.size + 1 + 1 < w1.heap.size := hz _ (by first | (simp; done) | (simp; omega) | assumption); have hz1 : w.heap.size + 1 < w1.heap.size := hz _ (by first | (simp; done) | (simp; omega) | assumption); have hz0 : w.heap.size < w1.heap.size := hz _ (by first | (simp; done) | (simp; omega) | assumption); first | rw [H1.out] | rw [H2.out])) | (go_at_call 78; go_must (refine (compare_any ⟨_, _, _⟩ ⟨_, _, _⟩ _).mono ?_; rintro e w1 ⟨rfl, hb⟩; obtain ⟨hc, hz, hf⟩ := kept hb; have hz2 : w.heap.size + 1 + 1 < w1.heap.size := hz _ (by first | (simp; done) | (simp; omega) | assumption); have hz1 : w.heap.size + 1 < w1.heap.size := hz _ (by first | (simp; done) | (simp; omega) | assumption); have hz0 : w.heap.size < w1.heap.size := hz _ (by first | (simp; done) | (simp; omega) | assumption))) | (go_at_call 77; go_must (refine (holds_any _ _ _).mono ?_; rintro e w1 ⟨rfl, rfl⟩; rw [HH.out])) | (go_at_call 74; go_must (refine (truth_any _ _).mono ?_; rintro e w1 ⟨rfl, hb⟩; obtain ⟨hc, hz, hf⟩ := kept hb; have hz2 : w.heap.size + 1 + 1 < w1.heap.size := hz _ (by first | (simp; done) | (simp; omega) | assumption); have hz1 : w.heap.size + 1 < w1.heap.size := hz _ (by first | (simp; done) | (simp; omega) | assumption); have hz0 : w.heap.size < w1.heap.size := hz _ (by first | (simp; done) | (simp; omega) | assumption))))
    (refine bodyPost_ret (v := .tuple #[(tru 0).v, .int .i64 0]) (by simp [results, Tryd.results68, go_sem, *]) rfl ⟨by (rfl), ?_⟩; (repeat (first | exact ext_refl _ | assumption | (refine ext_alloc ?_ _) | (refine ext_drewN ?_ _) | refine ext_drew ?_ | (refine ext_set (by first | (simp; done) | (simp; omega)) _ ?_) | (refine ext_trans ?_ (by assumption)))))
  · have HH := Lib.hid hh
    clear hh
    go_enter Tryd.func68, Tryd.ntmps68
    go_wp2_with (first | (go_at_call 76; go_must (refine (isNull_any ⟨_, _, _⟩ _).mono ?_; rintro e w1 ⟨rfl, hb⟩; obtain ⟨hc, hz, hf⟩ := kept hb; have hz2 : w.heap.size + 1 + 1 < w1.heap.size := hz _ (by first | (simp; done) | (simp; omega) | assumption); have hz1 : w.heap.size + 1 < w1.heap.size := hz _ (by first | (simp; done) | (simp; omega) | assumption); have hz0 : w.heap.size < w1.heap.size := hz _ (by first | (simp; done) | (simp; omega) | assumption))) | (go_at_call 70; go_must (refine (right_any ⟨_, _, _⟩ _).mono ?_; rintro e w1 ⟨rfl, hb⟩; obtain ⟨hc, hz, hf⟩ := kept hb; have hz2 : w.heap.size + 1 + 1 < w1.heap.size := hz _ (by first | (simp; done) | (simp; omega) | assumption); have hz1 : w.heap.size + 1 < w1.heap.size := hz _ (by first | (simp; done) | (simp; omega) | assumption); have hz0 : w.heap.size < w1.heap.size := hz _ (by first | (simp; done) | (simp; omega) | assumption); first | rw [H1.out] | rw [H2.out])) | (go_at_call 78; go_must (refine (compare_any ⟨_, _, _⟩ ⟨_, _, _⟩ _).mono ?_; rintro e w1 ⟨rfl, hb⟩; obtain ⟨hc, hz, hf⟩ := kept hb; have hz2 : w.heap.size + 1 + 1 < w1.heap.size := hz _ (by first | (simp; done) | (simp; omega) | assumption); have hz1 : w.heap.size + 1 < w1.heap.size := hz _ (by first | (simp; done) | (simp; omega) | assumption); have hz0 : w.heap.size < w1.heap.size := hz _ (by first | (simp; done) | (simp; omega) | assumption))) | (go_at_call 77; go_must (refine (holds_any _ _ _).mono ?_; rintro e w1 ⟨rfl, rfl⟩; rw [HH.out])) | (go_at_call 74; go_must (refine (truth_any _ _).mono ?_; rintro e w1 ⟨rfl, hb⟩; obtain ⟨hc, hz, hf⟩ := kept hb; have hz2 : w.heap.size + 1 + 1 < w1.heap.size := hz _ (by first | (simp; done) | (simp; omega) | assumption); have hz1 : w.heap.size + 1 < w1.heap.size := hz _ (by first | (simp; done) | (simp; omega) | assumption); have hz0 : w.heap.size < w1.heap.size := hz _ (by first | (simp; done) | (simp; omega) | assumption))))
    (refine bodyPost_ret (v := .tuple #[(tru 1).v, .int .i64 0]) (by simp [results, Tryd.results68, go_sem, *]) rfl ⟨by (rfl), ?_⟩; (repeat (first | exact ext_refl _ | assumption | (refine ext_alloc ?_ _) | (refine ext_drewN ?_ _) | refine ext_drew ?_ | (refine ext_set (by first | (simp; done) | (simp; omega)) _ ?_) | (refine ext_trans ?_ (by assumption)))))

theorem nulls (k l : Int) : (k == 0) = true ∨ (k == 0) = false ∧ (l == 0) = true ∨ (k == 0) = false ∧ (l == 0) = false := by
  cases k == 0 <;> cases l == 0 <;> simp

theorem test_any (op : Int) (x y : Val) (w : World) :
    Calls Tryd.prog 68 #[.int .i64 op, x.v, y.v] w fun e w' => e = .returned (.tuple #[(testS op x y).1.v, .int .i64 (testS op x y).2]) ∧ Below w.heap.size w w' := by
  obtain ⟨k, n, s⟩ := x
  obtain ⟨l, m, t⟩ := y
  cases ht : testable op ⟨k, n, s⟩ ⟨l, m, t⟩
  · rw [show testS op ⟨k, n, s⟩ ⟨l, m, t⟩ = (nul, 1) by simp only [testS, ht]; rfl]
    rcases refused ht with h | ⟨h, h'⟩ | ⟨h, h', h1⟩ | ⟨h, h', h1, h2⟩ | ⟨h, h', h1, h2, h3, h4, h5⟩
    · exact test_low op k n l m s t w h (nulls k l)
    · exact test_high op k n l m s t w h h' (nulls k l)
    · exact test_one op k n l m s t w h h' h1 (nulls k l)
    · exact test_two op k n l m s t w h h' h1 h2 (nulls k l)
    · exact test_kinds op k n l m s t w h h' h1 h2 h3 h4 h5
  · have ht' := ht
    simp only [testable, Bool.and_eq_true, decide_eq_true_eq] at ht'
    obtain ⟨⟨⟨⟨h, h'⟩, h1⟩, h2⟩, h3⟩ := ht'
    rcases nulls k l with h4 | ⟨h4, h5⟩ | ⟨h4, h5⟩
    · rw [show testS op ⟨k, n, s⟩ ⟨l, m, t⟩ = (nul, 0) by simp only [testS, ht, h4]; rfl]
      exact test_null op k n l m s t w h h' h1 h2 (.inl h4)
    · rw [show testS op ⟨k, n, s⟩ ⟨l, m, t⟩ = (nul, 0) by simp only [testS, ht, h4, h5]; rfl]
      exact test_null op k n l m s t w h h' h1 h2 (.inr ⟨h4, h5⟩)
    · have h6 : k = l := by
        rw [h4, h5] at h3
        simpa using h3
      subst h6
      rw [show testS op ⟨k, n, s⟩ ⟨k, m, t⟩ = (tru (bit (holdsB op (Val.cmp ⟨k, n, s⟩ ⟨k, m, t⟩))), 0) by simp only [testS, ht, h4]; rfl]
      exact test_said op k n m s t w h h' h1 h2 h4

end Go.Proofs.YtiidfghdmaipoaaDoor
