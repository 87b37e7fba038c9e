/- What Compare and Test answer. -/
import Derived.Test.YtkgdbpfpjpiejaaValA
import Derived.Deep.RegionWith
namespace Go.Proofs.Ytkgdbpfpjpiejaa
open Go.RowKit

/-- Which of two numbers goes ahead: -1, 0, 1. -/
def ordI (a b : Int) : Int := if a < b then -1 else if b < a then 1 else 0
/-- Which of two texts goes ahead: -1, 0, 1. -/
def ordS (a b : ByteArray) : Int := if Op.bytesLess a.toList b.toList then -1 else if a.toList = b.toList then 0 else 1
/-- The first of three numbers that is not nought. -/
def or3 (x y z : Int) : Int := if x != 0 then x else if y != 0 then y else z
def Val.cmp (x y : Val) : Int := or3 (ordI x.k y.k) (ordI x.n y.n) (ordS x.s y.s)

set_option maxHeartbeats 400000 in
theorem ordI_any (a b : Int) (w : World) :
    Calls Try.prog 32 #[.int .i64 a, .int .i64 b] w fun e w' => e = .returned (.int .i64 (ordI a b)) ∧ w = w' := by
  go_enter Try.func32, Try.ntmps32
  go_wp2
  all_goals go_ret
  all_goals refine ⟨?_, rfl⟩
  all_goals first | (simp_all [ordI]; done) | (unfold ordI; rw [if_neg (by omega), if_neg (by omega)]; rfl)

set_option maxHeartbeats 400000 in
theorem ordS_any (a b : ByteArray) (w : World) :
    Calls Try.prog 33 #[.string a, .string b] w fun e w' => e = .returned (.int .i64 (ordS a b)) ∧ w = w' := by
  go_enter Try.func33, Try.ntmps33
  go_wp2
  all_goals go_ret
  all_goals refine ⟨?_, rfl⟩
  all_goals (simp_all [ordS]; done)

set_option maxHeartbeats 400000 in
theorem cmpOr_any (a : Nat) (x y z : Int) (w : World) (h0 : w.cell? ⟨a, 0, none⟩ = some (.int .i64 x)) (h1 : w.cell? ⟨a, 1, none⟩ = some (.int .i64 y)) (h2 : w.cell? ⟨a, 2, none⟩ = some (.int .i64 z)) :
    Calls Try.prog 31 #[.slice (some ⟨a, 0, none⟩) 3 3] w fun e w' => e = .returned (.int .i64 (or3 x y z)) ∧ w = w' := by
  cases hx : x != 0
  · cases hy : y != 0
    · cases hz : z != 0
      · have hz0 : z = 0 := by simpa using hz
        subst hz0
        go_enter Try.func31, Try.ntmps31
        go_wp2
        refine wp_loop_rounds 4 ?_
        repeat any_goals (rw [rounds_succ]; go_wp2)
        go_ret
        exact ⟨by simp_all [or3], rfl⟩
      · go_enter Try.func31, Try.ntmps31
        go_wp2
        refine wp_loop_rounds 4 ?_
        repeat any_goals (rw [rounds_succ]; go_wp2)
        go_ret
        exact ⟨by simp_all [or3], rfl⟩
    · go_enter Try.func31, Try.ntmps31
      go_wp2
      refine wp_loop_rounds 4 ?_
      repeat any_goals (rw [rounds_succ]; go_wp2)
      go_ret
      exact ⟨by simp_all [or3], rfl⟩
  · go_enter Try.func31, Try.ntmps31
    go_wp2
    refine wp_loop_rounds 4 ?_
    repeat any_goals (rw [rounds_succ]; go_wp2)
    go_ret
    exact ⟨by simp_all [or3], rfl⟩

set_option maxHeartbeats 1000000 in
theorem compare_any (x y : Val) (w : World) :
    Calls Try.prog 24 #[x.v, y.v] w fun e w' => e = .returned (.int .i64 (x.cmp y)) ∧ Below w.heap.size w w' := by
  obtain ⟨k, n, s⟩ := x
  obtain ⟨l, m, t⟩ := y
  go_enter Try.func24, Try.ntmps24
  go_wp2
  go_region_held3 (fun w' => w'.cell? ⟨w.heap.size, 0, none⟩ = some (.int .i64 k) ∧ w'.cell? ⟨w.heap.size, 1, none⟩ = some (.int .i64 n) ∧ w'.cell? ⟨w.heap.size, 2, none⟩ = some (.string s) ∧ w'.cell? ⟨w.heap.size + 1, 0, none⟩ = some (.int .i64 l) ∧ w'.cell? ⟨w.heap.size + 1, 1, none⟩ = some (.int .i64 m) ∧ w'.cell? ⟨w.heap.size + 1, 2, none⟩ = some (.string t))
    (go_keep) (first | (go_at_call 32; refine (ordI_any _ _ _).mono ?_; rintro e w1 ⟨rfl, rfl⟩) | (go_at_call 33; refine (ordS_any _ _ _).mono ?_; rintro e w1 ⟨rfl, rfl⟩) | (go_at_call 31; refine (cmpOr_any _ (ordI k l) (ordI n m) (ordS s t) _ ?_ ?_ ?_).mono ?_; (all_goals try (simp [go_sem]; done)); rintro e w1 ⟨rfl, rfl⟩))
  go_wp2
  go_ret
  refine ⟨rfl, ?_⟩
  (repeat (first | exact ext_refl _ | assumption | (refine ext_alloc ?_ _) | (refine ext_drewN ?_ _) | refine ext_drew ?_ | (refine ext_set (by first | (simp; done) | (simp; omega)) _ ?_) | (refine ext_trans ?_ (by assumption))))

end Go.Proofs.Ytkgdbpfpjpiejaa
