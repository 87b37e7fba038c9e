/- The order of rows is a strict weak order; two sorted arrangements of the same rows are the same. No program is walked here. -/
import Derived.Test.YtmhcdmebienlpaaRowPure
import Derived.Test.YtmhcdmebienlpaaSortW
namespace Go.Proofs.Ytmhcdmebienlpaa
open Go.RowKit
open Go.Sort (PermIn SortedIn SWO)

/-- Two rows at place k: none goes ahead of any. -/
def oc (la lb : Nat) (x y : Nat → Val) (k : Nat) : Int := if k < la then (if k < lb then (x k).cmp (y k) else 1) else (if k < lb then -1 else 0)
def lexO (la lb : Nat) (x y : Nat → Val) : Nat → Nat → Int
  | 0, _ => 0
  | n + 1, k => lex (oc la lb x y k) (lexO la lb x y n (k + 1))

theorem oc_ord (la lb lc : Nat) (x y z : Nat → Val) (k : Nat) : Ord3 (oc la lb x y k) (oc lb la y x k) (oc lb lc y z k) (oc la lc x z k) := by
  unfold oc
  by_cases h1 : k < la <;> by_cases h2 : k < lb <;> by_cases h3 : k < lc <;> simp only [h1, h2, h3, if_true, if_false]
  · exact cmp_ord _ _ _
  all_goals first | (constructor <;> omega) | skip
  · obtain ⟨a, b, c, d, e, f⟩ := cmp_ord (x k) (y k) (x k)
    constructor <;> omega
  all_goals first | (constructor <;> omega) | (obtain ⟨a, b, c, d, e, f⟩ := cmp_ord (y k) (z k) (y k); constructor <;> omega) | (have h := cmp_three (x k) (z k); constructor <;> omega)
theorem lexO_ord (la lb lc : Nat) (x y z : Nat → Val) : ∀ (n k : Nat), Ord3 (lexO la lb x y n k) (lexO lb la y x n k) (lexO lb lc y z n k) (lexO la lc x z n k)
  | 0, _ => by constructor <;> simp [lexO]
  | n + 1, k => lex_ord (oc_ord la lb lc x y z k) (lexO_ord la lb lc x y z n (k + 1))
theorem lexO_none {la lb : Nat} {x y : Nat → Val} : ∀ (n k : Nat), la ≤ k → lb ≤ k → lexO la lb x y n k = 0
  | 0, _, _, _ => rfl
  | n + 1, k, h1, h2 => by
    rw [lexO, oc, if_neg (by omega), if_neg (by omega), lexO_none n (k + 1) (by omega) (by omega)]
    rfl
theorem cmpFrom_lexO {la lb : Nat} {x y : Nat → Val} : ∀ (f k n : Nat), f + k = min la lb → max la lb ≤ k + n → cmpFrom la lb x y f k = lexO la lb x y n k := by
  intro f
  induction f with
  | zero =>
    intro k n hk hn
    rw [cmpFrom]
    by_cases h1 : la < lb
    · obtain ⟨m, rfl⟩ : ∃ m, n = m + 1 := ⟨n - 1, by omega⟩
      rw [if_pos h1, lexO, oc, if_neg (by omega), if_pos (by omega)]
      rfl
    · rw [if_neg h1]
      by_cases h2 : lb < la
      · obtain ⟨m, rfl⟩ : ∃ m, n = m + 1 := ⟨n - 1, by omega⟩
        rw [if_pos h2, lexO, oc, if_pos (by omega), if_neg (by omega)]
        rfl
      · rw [if_neg h2, lexO_none n k (by omega) (by omega)]
  | succ f ih =>
    intro k n hk hn
    obtain ⟨m, rfl⟩ : ∃ m, n = m + 1 := ⟨n - 1, by omega⟩
    have ho : oc la lb x y k = (x k).cmp (y k) := by
      unfold oc
      rw [if_pos (by omega), if_pos (by omega)]
    rw [cmpFrom, lexO, ho, ih (k + 1) m (by omega) (by omega)]
    unfold lex
    by_cases h : (x k).cmp (y k) = 0
    · simp [h]
    · simp [h]
theorem cmpRow_ord (la lb lc : Nat) (x y z : Nat → Val) : Ord3 (cmpRow la lb x y) (cmpRow lb la y x) (cmpRow lb lc y z) (cmpRow la lc x z) := by
  unfold cmpRow
  rw [cmpFrom_lexO _ 0 (la + lb + lc) (by omega) (by omega), cmpFrom_lexO _ 0 (la + lb + lc) (by omega) (by omega), cmpFrom_lexO _ 0 (la + lb + lc) (by omega) (by omega), cmpFrom_lexO _ 0 (la + lb + lc) (by omega) (by omega)]
  exact lexO_ord _ _ _ _ _ _ _ _

theorem Rws.ord (R : Rws) (i j k : Nat) : Ord3 (R.cf i j) (R.cf j i) (R.cf j k) (R.cf i k) := cmpRow_ord _ _ _ _ _ _
theorem Rws.swo (R : Rws) : SWO R.lt where
  irrefl i := by
    have := (R.ord i i i).anti
    simp only [Rws.lt, decide_eq_false_iff_not]
    omega
  trans i j k h1 h2 := by
    simp only [Rws.lt, decide_eq_true_eq] at *
    exact (R.ord i j k).lt1 h1 (by omega)
  ntrans i j k h1 h2 := by
    simp only [Rws.lt, decide_eq_false_iff_not] at *
    have a := (R.ord i j k).anti
    have b := (R.ord j k j).anti
    have c := (R.ord i k i).anti
    have d := (R.ord k j i).le (by omega) (by omega)
    omega

end Go.Proofs.Ytmhcdmebienlpaa
