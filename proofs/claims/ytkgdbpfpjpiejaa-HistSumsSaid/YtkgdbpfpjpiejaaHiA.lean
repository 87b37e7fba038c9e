/- What the arithmetic on estimates answers, the developers' and the reference's: one sentence each, for all numbers. -/
import Derived.Test.YtkgdbpfpjpiejaaHiP
import Derived.Test.YtkgdbpfpjpiejaaLay
namespace Go.Proofs.Ytkgdbpfpjpiejaa
open Go.RowKit
set_option linter.unusedVariables false
set_option linter.unusedSimpArgs false

theorem mul64_any (x y : Nat) (hx : x < 18446744073709551616) (hy : y < 18446744073709551616) (w : World) :
    Calls Try.prog 27 #[.int .u64 x, .int .u64 y] w fun e w' => e = .returned (.tuple #[.int .u64 ((x * y / 18446744073709551616 : Nat) : Int), .int .u64 ((x * y % 18446744073709551616 : Nat) : Int)]) ∧ w' = w :=
  Any.bits_Mul64 Try.lays264 x y hx hy w

/-- Held between two numbers. -/
def limC (n a b : Int) : Int := if b < (if n < a then a else n) then b else if n < a then a else n
theorem limC_clip (n : Int) : limC n 0 1000000000000 = clip n := by unfold limC clip; split <;> split <;> (try split) <;> omega
theorem limC_divr (n : Int) : limC n 1 1000000000000 = divr n := by unfold limC divr; split <;> split <;> (try split) <;> omega

set_option maxHeartbeats 400000 in
theorem limI_any (n a b : Int) (w : World) :
    Calls Try.prog 26 #[.int .i64 n, .int .i64 a, .int .i64 b] w fun e w' => e = .returned (.int .i64 (limC n a b)) ∧ w = w' := by
  go_enter Try.func26, Try.ntmps26
  go_wp2
  all_goals go_ret
  all_goals refine ⟨?_, rfl⟩
  all_goals (show Ending.returned (Value.int _ _) = _; congr 2; unfold limC; by_cases h1 : n < a <;> first | (exfalso; omega) | (simp only [h1, if_true, if_false] at * <;> (try (split <;> omega))))

set_option maxHeartbeats 400000 in
theorem limU_any (n a b : Int) (w : World) :
    Calls Try.prog 28 #[.int .u64 n, .int .u64 a, .int .u64 b] w fun e w' => e = .returned (.int .u64 (limC n a b)) ∧ w = w' := by
  go_enter Try.func28, Try.ntmps28
  go_wp2
  all_goals go_ret
  all_goals refine ⟨?_, rfl⟩
  all_goals (show Ending.returned (Value.int _ _) = _; congr 2; unfold limC; by_cases h1 : n < a <;> first | (exfalso; omega) | (simp only [h1, if_true, if_false] at * <;> (try (split <;> omega))))

set_option maxHeartbeats 400000 in
theorem clip_any (n : Int) (w : World) :
    Calls Try.prog 10 #[.int .i64 n] w fun e w' => e = .returned (.int .i64 (clip n)) ∧ w = w' := by
  go_enter Try.func10, Try.ntmps10
  go_wp2_with (go_at_call 26; refine (limI_any n 0 1000000000000 _).mono ?_; rintro e w1 ⟨rfl, rfl⟩)
  go_ret
  refine ⟨?_, rfl⟩
  rw [limC_clip]
  rfl

set_option maxHeartbeats 400000 in
theorem divr_any (n : Int) (w : World) :
    Calls Try.prog 29 #[.int .i64 n] w fun e w' => e = .returned (.int .i64 (divr n)) ∧ w = w' := by
  go_enter Try.func29, Try.ntmps29
  go_wp2_with (go_at_call 26; refine (limI_any n 1 1000000000000 _).mono ?_; rintro e w1 ⟨rfl, rfl⟩)
  go_ret
  refine ⟨?_, rfl⟩
  rw [limC_divr]
  rfl

theorem wrap_small {z : Int} (h : 0 ≤ z) (h1 : z ≤ 2000000000000) : IntKind.i64.wrap z = z := by
  rw [IntKind.wrap_i64]; omega
theorem wrap_u {z : Int} (h : 0 ≤ z) (h1 : z ≤ 2000000000000) : IntKind.u64.wrap z = z := by
  rw [IntKind.wrap_u64]; omega

set_option maxHeartbeats 400000 in
theorem add_any (a b : Int) (w : World) :
    Calls Try.prog 12 #[.int .i64 a, .int .i64 b] w fun e w' => e = .returned (.int .i64 (addC a b)) ∧ w = w' := by
  have h : IntKind.i64.wrap (clip a + clip b) = clip a + clip b := by
    have := clip_le a; have := clip_le b
    exact wrap_small (by omega) (by omega)
  go_enter Try.func12, Try.ntmps12
  go_wp2_with (go_at_call 10; refine (clip_any _ _).mono ?_; rintro e w1 ⟨rfl, rfl⟩)
  go_ret
  exact ⟨rfl, rfl⟩

set_option maxHeartbeats 400000 in
theorem mul_any (a b : Int) (w : World) :
    Calls Try.prog 14 #[.int .i64 a, .int .i64 b] w fun e w' => e = .returned (.int .i64 (mulC a b)) ∧ w = w' := by
  have ha := clip_le a
  have hb := clip_le b
  obtain ⟨x, hx⟩ : ∃ x : Nat, clip a = x := ⟨(clip a).toNat, by omega⟩
  obtain ⟨y, hy⟩ : ∃ y : Nat, clip b = y := ⟨(clip b).toNat, by omega⟩
  have ca : ∀ w, Calls Try.prog 10 #[.int .i64 a] w fun e w' => e = .returned (.int .i64 (x : Int)) ∧ w = w' := fun w => hx ▸ clip_any a w
  have cb : ∀ w, Calls Try.prog 10 #[.int .i64 b] w fun e w' => e = .returned (.int .i64 (y : Int)) ∧ w = w' := fun w => hy ▸ clip_any b w
  rw [hx] at ha
  rw [hy] at hb
  have wx : IntKind.u64.wrap (x : Int) = x := wrap_u (by omega) (by omega)
  have wy : IntKind.u64.wrap (y : Int) = y := wrap_u (by omega) (by omega)
  have hm := mul64_any x y (by omega) (by omega)
  have hp : x * y ≤ 1000000000000 * 1000000000000 := Nat.mul_le_mul (by omega) (by omega)
  have goal : mulC a b = clip ((x * y : Nat) : Int) := by unfold mulC; rw [hx, hy, Int.natCast_mul]
  rw [goal]
  clear goal
  generalize x * y = p at *
  obtain ⟨h, hh⟩ : ∃ h : Nat, p / 18446744073709551616 = h := ⟨_, rfl⟩
  obtain ⟨l, hl⟩ : ∃ l : Nat, p % 18446744073709551616 = l := ⟨_, rfl⟩
  rw [hh, hl] at hm
  have hc := clip_le (l : Int)
  have lw : IntKind.i64.wrap (clip (l : Int)) = clip l := wrap_small (by omega) (by omega)
  by_cases h0 : 0 < h
  · have hg : (0 : Int) < h := by omega
    have e : clip (p : Int) = 1000000000000 := clip_most (by omega)
    rw [e]
    clear e hp hh hl hx hy
    go_enter Try.func14, Try.ntmps14
    go_wp2_with (first | (go_at_call 10; first | (refine (ca _).mono ?_; rintro e w1 ⟨rfl, rfl⟩) | (refine (cb _).mono ?_; rintro e w1 ⟨rfl, rfl⟩)) | (go_at_call 27; refine (hm _).mono ?_; rintro e w1 ⟨rfl, hw⟩; subst hw))
    go_ret
    exact ⟨rfl, rfl⟩
  · obtain rfl : h = 0 := by omega
    have e : p = l := by omega
    rw [e]
    clear e hp hh hl hx hy
    go_enter Try.func14, Try.ntmps14
    go_wp2_with (first | (go_at_call 10; first | (refine (ca _).mono ?_; rintro e w1 ⟨rfl, rfl⟩) | (refine (cb _).mono ?_; rintro e w1 ⟨rfl, rfl⟩)) | (go_at_call 27; refine (hm _).mono ?_; rintro e w1 ⟨rfl, hw⟩; subst hw) | (go_at_call 28; refine (limU_any _ 0 1000000000000 _).mono ?_; rw [limC_clip]; rintro e w1 ⟨rfl, rfl⟩))
    go_ret
    exact ⟨rfl, rfl⟩

set_option maxHeartbeats 400000 in
theorem times_any (a n d : Int) (w : World) :
    Calls Try.prog 16 #[.int .i64 a, .int .i64 n, .int .i64 d] w fun e w' => e = .returned (.int .i64 (timesC a n d)) ∧ w = w' := by
  have hm := mulC_le a n
  have hd := divr_le d
  have ht := timesC_le a n d
  have et : timesC a n d = mulC a n / divr d := rfl
  have ht' : (mulC a n).tdiv (divr d) = timesC a n d := by rw [et]; exact Int.tdiv_eq_ediv_of_nonneg hm.1
  have hw : IntKind.i64.wrap (timesC a n d) = timesC a n d := wrap_small (by omega) (by omega)
  have hz : divr d ≠ 0 := by omega
  have hz' : (divr d == 0) = false := by simpa using hz
  clear et
  generalize timesC a n d = q at *
  go_enter Try.func16, Try.ntmps16
  go_wp2_with (first | (go_at_call 14; refine (mul_any _ _ _).mono ?_; rintro e w1 ⟨rfl, rfl⟩) | (go_at_call 29; refine (divr_any _ _).mono ?_; rintro e w1 ⟨rfl, rfl⟩))
  go_ret
  exact ⟨rfl, rfl⟩

set_option maxHeartbeats 400000 in
theorem rclip_any (n : Int) (w : World) :
    Calls Try.prog 11 #[.int .i64 n] w fun e w' => e = .returned (.int .i64 (clip n)) ∧ w = w' := by
  rw [← limC_clip]
  go_enter Try.func11, Try.ntmps11
  go_wp2
  all_goals go_ret
  all_goals refine ⟨?_, rfl⟩
  all_goals (show Ending.returned (Value.int _ _) = _; congr 2; unfold limC; by_cases h1 : n < 0 <;> first | (exfalso; omega) | (simp only [h1, if_true, if_false] at * <;> (try (split <;> omega))))

set_option maxHeartbeats 400000 in
theorem radd_any (a b : Int) (w : World) :
    Calls Try.prog 13 #[.int .i64 a, .int .i64 b] w fun e w' => e = .returned (.int .i64 (addC a b)) ∧ w = w' := by
  have h : IntKind.i64.wrap (clip a + clip b) = clip a + clip b := by
    have := clip_le a; have := clip_le b
    exact wrap_small (by omega) (by omega)
  go_enter Try.func13, Try.ntmps13
  go_wp2_with (go_at_call 11; refine (rclip_any _ _).mono ?_; rintro e w1 ⟨rfl, rfl⟩)
  go_ret
  exact ⟨rfl, rfl⟩

set_option maxHeartbeats 400000 in
theorem rmul_any (a b : Int) (w : World) :
    Calls Try.prog 15 #[.int .i64 a, .int .i64 b] w fun e w' => e = .returned (.int .i64 (mulC a b)) ∧ w = w' := by
  have ha := clip_le a
  have hb := clip_le b
  have ca : ∀ w, Calls Try.prog 11 #[.int .i64 a] w fun e w' => e = .returned (.int .i64 (clip a)) ∧ w = w' := rclip_any a
  have cb : ∀ w, Calls Try.prog 11 #[.int .i64 b] w fun e w' => e = .returned (.int .i64 (clip b)) ∧ w = w' := rclip_any b
  unfold mulC
  generalize clip a = x at *
  generalize clip b = y at *
  by_cases h0 : y = 0
  · subst h0
    have e : clip (x * 0) = 0 := by rw [Int.mul_zero]; rfl
    have h : IntKind.i64.wrap (x * 0) = 0 := by rw [Int.mul_zero]; rfl
    rw [e]
    go_enter Try.func15, Try.ntmps15
    go_wp2_with (go_at_call 11; first | (refine (ca _).mono ?_; rintro e w1 ⟨rfl, rfl⟩) | (refine (cb _).mono ?_; rintro e w1 ⟨rfl, rfl⟩))
    go_ret
    exact ⟨rfl, rfl⟩
  · have hy : (y == 0) = false := by simpa using h0
    have hy' : (y != 0) = true := by simpa using h0
    obtain ⟨q, hq⟩ : ∃ q, (1000000000000 : Int).tdiv y = q := ⟨_, rfl⟩
    have hq' : (1000000000000 : Int) / y = q := by rw [← hq]; exact (Int.tdiv_eq_ediv_of_nonneg (by omega)).symm
    have hq0 : 0 ≤ q := by rw [← hq']; exact Int.ediv_nonneg (by omega) (by omega)
    have hq1 : q ≤ 1000000000000 := by rw [← hq']; exact Int.ediv_le_self _ (by omega)
    have hqw : IntKind.i64.wrap q = q := wrap_small (by omega) (by omega)
    have key : q < x ↔ 1000000000000 < x * y := by rw [← hq']; exact ⟨fun h => (Int.ediv_lt_iff_lt_mul (by omega)).1 h, fun h => (Int.ediv_lt_iff_lt_mul (by omega)).2 h⟩
    by_cases hx : q < x
    · have e : clip (x * y) = 1000000000000 := clip_most (by have := key.1 hx; omega)
      rw [e]
      clear e key hq'
      go_enter Try.func15, Try.ntmps15
      go_wp2_with (go_at_call 11; first | (refine (ca _).mono ?_; rintro e w1 ⟨rfl, rfl⟩) | (refine (cb _).mono ?_; rintro e w1 ⟨rfl, rfl⟩))
      go_ret
      exact ⟨rfl, rfl⟩
    · have hxy : x * y ≤ 1000000000000 := by
        rcases Int.lt_or_le 1000000000000 (x * y) with h | h
        · exact absurd (key.2 h) hx
        · exact h
      have hxy0 : 0 ≤ x * y := Int.mul_nonneg ha.1 hb.1
      have hw : IntKind.i64.wrap (x * y) = x * y := wrap_small hxy0 (by omega)
      rw [clip_of hxy0 hxy]
      have hx : x ≤ q := by omega
      clear key hq'
      go_enter Try.func15, Try.ntmps15
      go_wp2_with (go_at_call 11; first | (refine (ca _).mono ?_; rintro e w1 ⟨rfl, rfl⟩) | (refine (cb _).mono ?_; rintro e w1 ⟨rfl, rfl⟩))
      go_ret
      exact ⟨rfl, rfl⟩

set_option maxHeartbeats 400000 in
theorem rtimes_any (a n d : Int) (w : World) :
    Calls Try.prog 17 #[.int .i64 a, .int .i64 n, .int .i64 d] w fun e w' => e = .returned (.int .i64 (timesC a n d)) ∧ w = w' := by
  have hm := mulC_le a n
  have hd := divr_le d
  have ht := timesC_le a n d
  have et : timesC a n d = mulC a n / divr d := rfl
  have ht' : (mulC a n).tdiv (divr d) = timesC a n d := by rw [et]; exact Int.tdiv_eq_ediv_of_nonneg hm.1
  have hw : IntKind.i64.wrap (timesC a n d) = timesC a n d := wrap_small (by omega) (by omega)
  have hz : divr d ≠ 0 := by omega
  have hz' : (divr d == 0) = false := by simpa using hz
  have hdd := divr_eq d
  have hc := clip_le d
  clear et
  generalize timesC a n d = q at *
  have t1 : clip d < 1 → (mulC a n).tdiv 1 = q := fun h => by rw [hdd, if_pos h] at ht'; exact ht'
  have t2 : 1 ≤ clip d → mulC a n / clip d = q ∧ (mulC a n).tdiv (clip d) = q := fun h => by
    rw [hdd, if_neg (by omega)] at ht'
    exact ⟨by rw [← ht']; exact (Int.tdiv_eq_ediv_of_nonneg hm.1).symm, ht'⟩
  clear ht' hz hz' hdd
  go_enter Try.func17, Try.ntmps17
  go_wp2_with (first | (go_at_call 15; refine (rmul_any _ _ _).mono ?_; rintro e w1 ⟨rfl, rfl⟩) | (go_at_call 11; refine (rclip_any _ _).mono ?_; rintro e w1 ⟨rfl, rfl⟩))
  all_goals go_ret
  all_goals refine ⟨?_, rfl⟩
  · show Ending.returned (Value.int _ _) = _
    rw [(t2 (by omega)).1]
  · show Ending.returned (Value.int _ _) = _
    have : mulC a n = q := by
      by_cases h1 : clip d < 1
      · have := t1 h1
        rwa [Int.tdiv_one] at this
      · have := (t2 (by omega)).2
        rwa [show clip d = 1 by omega, Int.tdiv_one] at this
    rw [this]

end Go.Proofs.Ytkgdbpfpjpiejaa
