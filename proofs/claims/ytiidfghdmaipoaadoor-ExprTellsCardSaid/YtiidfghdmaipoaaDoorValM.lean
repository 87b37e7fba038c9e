/- Whole numbers of 64 bits: sums, differences, products, quotients, and whether they fit. No program stands here. -/
import Derived.Test.YtiidfghdmaipoaaDoorVal
namespace Go.Proofs.YtiidfghdmaipoaaDoor
open Go.RowKit

theorem inR_iff (z : Int) : inR z = true ↔ -9223372036854775808 ≤ z ∧ z ≤ 9223372036854775807 := by simp [inR]
theorem inR_no (z : Int) : inR z = false ↔ ¬ (-9223372036854775808 ≤ z ∧ z ≤ 9223372036854775807) := by simp only [inR, decide_eq_false_iff_not]

theorem wrap_of (z : Int) (h : inR z = true) : wrap64 z = z := by
  rw [inR_iff] at h
  unfold wrap64; omega

theorem wrap_in (z : Int) : -9223372036854775808 ≤ wrap64 z ∧ wrap64 z ≤ 9223372036854775807 := by
  unfold wrap64; omega

theorem wrap_mul (z : Int) : ∃ k : Int, wrap64 z = z - 18446744073709551616 * k := by
  unfold wrap64
  exact ⟨(z + 9223372036854775808) / 18446744073709551616, by omega⟩

theorem add_fits (a b : Int) (ha : inR a = true) (hb : inR b = true) : (decide (a < wrap64 (a + b)) == decide (0 < b)) = inR (a + b) := by
  rw [inR_iff] at ha hb
  rw [Bool.eq_iff_iff, inR_iff, beq_iff_eq, Bool.eq_iff_iff, decide_eq_true_iff, decide_eq_true_iff]
  unfold wrap64; omega

theorem sub_fits (a b : Int) (ha : inR a = true) (hb : inR b = true) : (decide (wrap64 (a - b) < a) == decide (0 < b)) = inR (a - b) := by
  rw [inR_iff] at ha hb
  rw [Bool.eq_iff_iff, inR_iff, beq_iff_eq, Bool.eq_iff_iff, decide_eq_true_iff, decide_eq_true_iff]
  unfold wrap64; omega

/-- A number is the quotient (cut towards nought) times the divisor, and a rest that is less than the divisor. -/
theorem rest_of (n b : Int) : ∃ r : Int, n = n.tdiv b * b + r ∧ (0 ≤ n → 0 ≤ r) ∧ (n ≤ 0 → r ≤ 0) ∧ (0 < b → -b < r ∧ r < b) ∧ (b < 0 → b < r ∧ r < -b) := by
  refine ⟨n.tmod b, ?_, ?_, ?_, ?_, ?_⟩
  · have := Int.tdiv_mul_add_tmod n b; omega
  · exact fun h => Int.tmod_nonneg b h
  · intro h
    have h2 := Int.tmod_nonneg b (show 0 ≤ -n by omega)
    rw [Int.neg_tmod] at h2; omega
  · intro h
    exact ⟨by have := Int.lt_tmod_of_pos n h; omega, Int.tmod_lt_of_pos n h⟩
  · intro h
    have h1 := Int.lt_tmod_of_pos n (show 0 < -b by omega)
    have h2 := Int.tmod_lt_of_pos n (show 0 < -b by omega)
    rw [Int.tmod_neg] at h1 h2; omega

/-- Out of range a quotient comes only where the least number is divided by -1. -/
theorem quot_in (n b : Int) (hn : inR n = true) (hb0 : b ≠ 0) : inR (n.tdiv b) = true ∨ (b = -1 ∧ n = -9223372036854775808) := by
  rw [inR_iff] at hn ⊢
  have hq : (n.tdiv b).natAbs = n.natAbs / b.natAbs := Int.natAbs_tdiv n b
  by_cases h1 : b.natAbs = 1
  · rw [h1, Nat.div_one] at hq
    rcases Int.natAbs_eq b with h | h
    · have : b = 1 := by omega
      subst this
      rw [Int.tdiv_one] at *
      exact .inl hn
    · have : b = -1 := by omega
      subst this
      rw [Int.tdiv_neg, Int.tdiv_one] at *
      omega
  · have h2 : n.natAbs / b.natAbs ≤ n.natAbs / 2 := Nat.div_le_div_left (by omega) (by omega)
    left; omega

theorem sign_mul (a b : Int) (ha0 : a ≠ 0) (hb0 : b ≠ 0) : decide (a * b < 0) = (decide (a < 0) != decide (b < 0)) := by
  rcases Int.lt_or_gt_of_ne ha0 with h | h <;> rcases Int.lt_or_gt_of_ne hb0 with h' | h'
  · have := Int.mul_pos_of_neg_of_neg h h'
    simp [h, h']; omega
  · have := Int.mul_neg_of_neg_of_pos h h'
    simp [h, this]; omega
  · have := Int.mul_neg_of_pos_of_neg h h'
    simp [h', this]; omega
  · have := Int.mul_pos h h'
    have e1 : ¬ a < 0 := by omega
    have e2 : ¬ b < 0 := by omega
    simp [e1, e2]; omega

theorem mul_fits (a b : Int) (ha : inR a = true) (hb : inR b = true) (ha0 : a ≠ 0) (hb0 : b ≠ 0) :
    ((wrap64 ((wrap64 (a * b)).tdiv b) == a) && (decide (wrap64 (a * b) < 0) == (decide (a < 0) != decide (b < 0)))) = inR (a * b) := by
  cases hp : inR (a * b)
  · rw [Bool.and_eq_false_iff]
    by_cases hq : wrap64 ((wrap64 (a * b)).tdiv b) = a
    · right
      obtain ⟨k, hk⟩ := wrap_mul (a * b)
      have hin := wrap_in (a * b)
      rcases quot_in (wrap64 (a * b)) b ((inR_iff _).2 hin) hb0 with h | ⟨h, h'⟩
      · exfalso
        rw [wrap_of _ h] at hq
        obtain ⟨r, h1, _, _, h2, h3⟩ := rest_of (wrap64 (a * b)) b
        rw [hq] at h1
        rw [inR_no] at hp
        rw [inR_iff] at hb
        generalize wrap64 (a * b) = n at *
        generalize a * b = p at *
        omega
      · subst h
        rw [h'] at hq ⊢
        have : a < 0 := by rw [← hq]; simp [wrap64]
        simp [this]
    · left
      simpa using hq
  · rw [wrap_of _ hp, Int.mul_tdiv_cancel _ hb0, wrap_of _ ha, sign_mul a b ha0 hb0]
    simp

/-- The other way to ask: what comes is divided by the first factor, and the one pair that wraps is named. -/
theorem mul_fits' (a b : Int) (ha : inR a = true) (hb : inR b = true) (ha0 : a ≠ 0) :
    ((wrap64 ((wrap64 (a * b)).tdiv a) != b) || ((a == -1) && (b == -9223372036854775808))) = !inR (a * b) := by
  cases hp : inR (a * b)
  · rw [Bool.not_false, Bool.or_eq_true]
    by_cases hq : wrap64 ((wrap64 (a * b)).tdiv a) = b
    · right
      obtain ⟨k, hk⟩ := wrap_mul (a * b)
      have hin := wrap_in (a * b)
      rcases quot_in (wrap64 (a * b)) a ((inR_iff _).2 hin) ha0 with h | ⟨h, h'⟩
      · exfalso
        rw [wrap_of _ h] at hq
        obtain ⟨r, h1, _, _, h2, h3⟩ := rest_of (wrap64 (a * b)) a
        rw [hq, Int.mul_comm b a] at h1
        rw [inR_no] at hp
        rw [inR_iff] at ha
        generalize wrap64 (a * b) = n at *
        generalize a * b = p at *
        omega
      · subst h
        rw [h'] at hq
        have : b = -9223372036854775808 := by rw [← hq]; simp [wrap64]
        simp [this]
    · left
      simpa using hq
  · rw [wrap_of _ hp, Int.mul_comm a b, Int.mul_tdiv_cancel _ ha0, wrap_of _ hb]
    simp
    rintro rfl rfl
    rw [inR_iff] at hp
    omega

theorem div_fits (a b : Int) (ha : inR a = true) (hb0 : b ≠ 0) : (a != -9223372036854775808 || b != -1) = inR (a.tdiv b) := by
  cases h : inR (a.tdiv b)
  · rcases quot_in a b ha hb0 with h' | ⟨rfl, rfl⟩
    · rw [h] at h'; cases h'
    · decide
  · rw [Bool.or_eq_true]
    by_cases hb : b = -1
    · subst hb
      left
      rw [Int.tdiv_neg, Int.tdiv_one, inR_iff] at h
      simp; omega
    · right; simpa using hb

end Go.Proofs.YtiidfghdmaipoaaDoor
