/- What the document's own Compare answers, and what both Tests do. -/
import Derived.Test.YtkgdbpfpjpiejaaValD
namespace Go.Proofs.Ytkgdbpfpjpiejaa
open Go.RowKit

def sgn (b : Bool) : Int := if b then -1 else 1

set_option maxHeartbeats 400000 in
theorem sign_any (b : Bool) (w : World) :
    Calls Try.prog 34 #[.bool b] w fun e w' => e = .returned (.int .i64 (sgn b)) ∧ w = w' := by
  cases b
  all_goals go_enter Try.func34, Try.ntmps34
  all_goals go_wp2
  all_goals go_ret
  all_goals exact ⟨rfl, rfl⟩

theorem ordI_self (a : Int) : ordI a a = 0 := by simp [ordI]
theorem ordI_ne {a b : Int} (h : a ≠ b) : ordI a b = sgn (decide (a < b)) := by
  unfold ordI sgn
  by_cases h1 : a < b
  · simp [h1]
  · simp [h1]; omega
theorem sgn_ne (b : Bool) : (sgn b != 0) = true := by cases b <;> rfl
theorem or3_one {x y z : Int} (h : (x != 0) = true) : or3 x y z = x := by simp only [or3, h, if_true]
theorem or3_two {y z : Int} (h : (y != 0) = true) : or3 0 y z = y := by simp only [or3, h, if_true]; rfl
theorem or3_three {z : Int} : or3 0 0 z = z := rfl

theorem cmp_k {k n l m : Int} {s t : ByteArray} (h : k ≠ l) : Val.cmp ⟨k, n, s⟩ ⟨l, m, t⟩ = sgn (decide (k < l)) := by
  unfold Val.cmp
  rw [ordI_ne h, or3_one (sgn_ne _)]
theorem cmp_n {k n m : Int} {s t : ByteArray} (h : n ≠ m) : Val.cmp ⟨k, n, s⟩ ⟨k, m, t⟩ = sgn (decide (n < m)) := by
  unfold Val.cmp
  rw [ordI_self, ordI_ne h, or3_two (sgn_ne _)]
theorem cmp_s {k n : Int} {s t : ByteArray} : Val.cmp ⟨k, n, s⟩ ⟨k, n, t⟩ = ordS s t := by
  unfold Val.cmp
  rw [ordI_self, ordI_self, or3_three]

theorem bytesLess_self : ∀ a : List UInt8, Op.bytesLess a a = false
  | [] => rfl
  | a :: x => by
    rw [Op.bytesLess, bytesLess_self x, Bool.and_false, Bool.or_false]
    simp

theorem ordS_same {s t : ByteArray} (h : (s.toList == t.toList) = true) : ordS s t = 0 := by
  have h2 : s.toList = t.toList := by simpa using h
  unfold ordS
  rw [h2, bytesLess_self]
  simp
theorem ordS_other {s t : ByteArray} (h : (s.toList == t.toList) = false) : ordS s t = sgn (Op.bytesLess s.toList t.toList) := by
  have h2 : ¬ s.toList = t.toList := by simpa using h
  unfold ordS sgn
  rw [if_neg h2]

set_option maxHeartbeats 400000 in
theorem rcompare_any (x y : Val) (w : World) :
    Calls Try.prog 30 #[x.v, y.v] w fun e w' => e = .returned (.int .i64 (x.cmp y)) ∧ Below w.heap.size w w' := by
  obtain ⟨k, n, s⟩ := x
  obtain ⟨l, m, t⟩ := y
  by_cases h1 : k = l
  · subst h1
    by_cases h2 : n = m
    · subst h2
      rw [cmp_s]
      cases h3 : s.toList == t.toList
      · rw [ordS_other h3]
        go_enter Try.func30, Try.ntmps30
        go_wp2_with (first | (go_at_call 34; go_must (refine (sign_any _ _).mono ?_; rintro e w1 ⟨rfl, rfl⟩)))
        go_ret
        refine ⟨rfl, ?_⟩
        (repeat (first | exact ext_refl _ | assumption | (refine ext_alloc ?_ _) | (refine ext_drewN ?_ _) | refine ext_drew ?_ | (refine ext_set (by first | (simp; done) | (simp; omega)) _ ?_) | (refine ext_trans ?_ (by assumption))))
      · rw [ordS_same h3]
        go_enter Try.func30, Try.ntmps30
        go_wp2_with (first | (go_at_call 34; go_must (refine (sign_any _ _).mono ?_; rintro e w1 ⟨rfl, rfl⟩)))
        go_ret
        refine ⟨rfl, ?_⟩
        (repeat (first | exact ext_refl _ | assumption | (refine ext_alloc ?_ _) | (refine ext_drewN ?_ _) | refine ext_drew ?_ | (refine ext_set (by first | (simp; done) | (simp; omega)) _ ?_) | (refine ext_trans ?_ (by assumption))))
    · rw [cmp_n h2]
      have h3 : (n != m) = true := by simpa using h2
      go_enter Try.func30, Try.ntmps30
      go_wp2_with (first | (go_at_call 34; go_must (refine (sign_any _ _).mono ?_; rintro e w1 ⟨rfl, rfl⟩)))
      go_ret
      refine ⟨rfl, ?_⟩
      (repeat (first | exact ext_refl _ | assumption | (refine ext_alloc ?_ _) | (refine ext_drewN ?_ _) | refine ext_drew ?_ | (refine ext_set (by first | (simp; done) | (simp; omega)) _ ?_) | (refine ext_trans ?_ (by assumption))))
  · rw [cmp_k h1]
    have h3 : (k != l) = true := by simpa using h1
    go_enter Try.func30, Try.ntmps30
    go_wp2_with (first | (go_at_call 34; go_must (refine (sign_any _ _).mono ?_; rintro e w1 ⟨rfl, rfl⟩)))
    go_ret
    refine ⟨rfl, ?_⟩
    (repeat (first | exact ext_refl _ | assumption | (refine ext_alloc ?_ _) | (refine ext_drewN ?_ _) | refine ext_drew ?_ | (refine ext_set (by first | (simp; done) | (simp; omega)) _ ?_) | (refine ext_trans ?_ (by assumption))))

def holdsB (op c : Int) : Bool :=
  if op = 9 then c == 0 else if op = 10 then c != 0 else if op = 11 then decide (c < 0) else if op = 12 then decide (c ≤ 0) else if op = 13 then decide (0 < c) else if op = 14 then decide (0 ≤ c) else false

def testable (op : Int) (x y : Val) : Bool := decide (9 ≤ op) && decide (op ≤ 14) && x.right && y.right && (x.k == 0 || y.k == 0 || x.k == y.k)
/-- What Test answers. -/
def testS (op : Int) (x y : Val) : Val × Int :=
  if testable op x y then (if x.k == 0 || y.k == 0 then (nul, 0) else (tru (bit (holdsB op (x.cmp y))), 0)) else (nul, 1)

/-- Why a comparison is refused. -/
def Refused (op : Int) (x y : Val) : Prop :=
  op < 9 ∨ (9 ≤ op ∧ 14 < op) ∨ (9 ≤ op ∧ op ≤ 14 ∧ x.right = false) ∨ (9 ≤ op ∧ op ≤ 14 ∧ x.right = true ∧ y.right = false) ∨
    (9 ≤ op ∧ op ≤ 14 ∧ x.right = true ∧ y.right = true ∧ (x.k == 0) = false ∧ (y.k == 0) = false ∧ (x.k != y.k) = true)

theorem refused {op : Int} {x y : Val} (h : testable op x y = false) : Refused op x y := by
  by_cases h1 : op < 9
  · exact .inl h1
  by_cases h2 : 14 < op
  · exact .inr (.inl ⟨by omega, h2⟩)
  have h3 : 9 ≤ op := by omega
  have h4 : op ≤ 14 := by omega
  cases h5 : x.right
  · exact .inr (.inr (.inl ⟨h3, h4, h5⟩))
  cases h6 : y.right
  · exact .inr (.inr (.inr (.inl ⟨h3, h4, h5, h6⟩)))
  simp only [testable, h3, h4, h5, h6, decide_true, Bool.true_and, Bool.or_eq_false_iff] at h
  exact .inr (.inr (.inr (.inr ⟨h3, h4, h5, h6, h.1.1, h.1.2, by rw [bne, h.2]; rfl⟩)))

theorem nulls (k l : Int) : (k == 0) = true ∨ (k == 0) = false ∧ (l == 0) = true ∨ (k == 0) = false ∧ (l == 0) = false := by
  cases k == 0 <;> cases l == 0 <;> simp

end Go.Proofs.Ytkgdbpfpjpiejaa
