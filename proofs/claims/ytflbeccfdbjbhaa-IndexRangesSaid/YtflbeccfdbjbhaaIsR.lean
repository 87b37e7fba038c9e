/- The library's stable sort at lists of places: two ranges exchanged; a range turned. -/
import Derived.Test.YtflbeccfdbjbhaaIsW
namespace Go.Proofs.Ytflbeccfdbjbhaa
open Go.RowKit
open Go.Sort (swp PermIn SortedIn SWO Ins)

/-- Two ranges of n places exchanged: what stands at place k. -/
def xch (d : Array Nat) (a b n k : Nat) : Nat := if a ≤ k ∧ k < a + n then d[k - a + b]! else if b ≤ k ∧ k < b + n then d[k - b + a]! else d[k]!

theorem xch_step {d e : Array Nat} {a b i : Nat} (hab : a + i < b) (hs : e.size = d.size) (hb : b + i < d.size) (h : ∀ k, e[k]! = xch d a b i k) (k : Nat) : (swp e (a + i) (b + i))[k]! = xch d a b (i + 1) k := by
  rw [Go.Sort.swp_get e (by omega) (by omega), h, h, h]
  unfold xch
  repeat' split
  all_goals first | rfl | (congr 1; omega) | omega

set_option maxRecDepth 100000 in
set_option maxHeartbeats 4000000 in
theorem swapRange_any (R : Rws) (W0 : World) (g cap a b n lo hi : Nat) (d : Array Nat) (w : World) (fv : Value) (S : SW R W0 g d w) (hab : a + n ≤ b) (hb : b + n ≤ d.size) (hlo : lo ≤ a) (hhi : b + n ≤ hi) (hhs : hi ≤ d.size) (hsz : d.size ≤ 4611686018427387904) :
    Calls Try.prog 34 #[.slice (some ⟨g, 0, none⟩) d.size cap, .int .i64 a, .int .i64 b, .int .i64 n, fv] w fun e w' => e = .returned (.tuple #[]) ∧ ∃ d', SW R W0 g d' w' ∧ PermIn lo hi d d' ∧ ∀ k, d'[k]! = xch d a b n k := by
  go_enter Try.func34, Try.ntmps34
  go_wp2
  go_loopw [10] (fun vi wr => ∃ (i : Nat) (e : Array Nat), vi = .int .i64 i ∧ i ≤ n ∧ Hid (SW R W0 g e wr ∧ PermIn lo hi d e ∧ ∀ k, e[k]! = xch d a b i k)) (fun vi _ => n - (intOf vi).toNat)
  case atStart => exact ⟨0, d, by go_num, by omega, ⟨S, permIn_refl, fun k => by unfold xch; rw [if_neg (by omega), if_neg (by omega)]⟩⟩
  case round =>
    clear S
    obtain ⟨i, e, rfl, hi', HH⟩ := hrel
    have hse : e.size = d.size := HH.out.2.1.1
    by_cases hlt : i < n
    · have S1 := HH.out.1
      have SS := Lib.hid (S1.swap (a + i) (b + i) (by omega) (by omega))
      have c0 := S1.cell (a + i) (by omega)
      have c1 := S1.cell (b + i) (by omega)
      have f0 := S1.frozen
      have z1 : (a : Int) + (i : Int) < (d.size : Int) := by omega
      have z2 : (b : Int) + (i : Int) < (d.size : Int) := by omega
      have z3 : (0 : Int) ≤ (a : Int) + (i : Int) := by omega
      have z4 : (0 : Int) ≤ (b : Int) + (i : Int) := by omega
      have z5 : ((a : Int) + (i : Int)).toNat = a + i := by omega
      have z6 : ((b : Int) + (i : Int)).toNat = b + i := by omega
      have z7 : IntKind.i64.wrap ((a : Int) + (i : Int)) = (a : Int) + (i : Int) := by rw [IntKind.wrap_i64]; omega
      have z8 : IntKind.i64.wrap ((b : Int) + (i : Int)) = (b : Int) + (i : Int) := by rw [IntKind.wrap_i64]; omega
      clear S1
      go_wp2_with fail
      go_region
      clear c0 c1 f0
      go_wp2
      go_roundw
      case rel => exact ⟨i + 1, swp e (a + i) (b + i), by go_num, by omega, ⟨SS.out.drew, permIn_trans HH.out.2.1 (permIn_swp (by omega) (by omega) (by omega) (by omega) (by omega)), xch_step (by omega) hse (by omega) HH.out.2.2⟩⟩
      case measure => simp [intOf]; omega
    · have hin : i = n := by omega
      subst hin
      go_wp2
      go_end0
      exact ⟨rfl, e, HH.out⟩

/-- A range turned: what stands at place k. -/
def rot (d : Nat → Nat) (lo mid hi k : Nat) : Nat := if lo ≤ k ∧ k < lo + (hi - mid) then d (mid + (k - lo)) else if lo + (hi - mid) ≤ k ∧ k < hi then d (lo + (k - lo - (hi - mid))) else d k
theorem rot_left {d e : Nat → Nat} {m i j : Nat} (hji : j < i) (hi : i ≤ m) (h : ∀ k, e k = if m - i ≤ k ∧ k < m - i + j then d (k - (m - i) + m) else if m ≤ k ∧ k < m + j then d (k - m + (m - i)) else d k) (k : Nat) : rot e (m - i + j) m (m + j) k = rot d (m - i) m (m + j) k := by
  unfold rot
  simp only [h]
  repeat' split
  all_goals first | rfl | (congr 1; omega) | omega
theorem rot_right {d e : Nat → Nat} {m i j : Nat} (hij : i < j) (hi : i ≤ m) (h : ∀ k, e k = if m - i ≤ k ∧ k < m - i + i then d (k - (m - i) + (m + j - i)) else if m + j - i ≤ k ∧ k < m + j - i + i then d (k - (m + j - i) + (m - i)) else d k) (k : Nat) : rot e (m - i) m (m + j - i) k = rot d (m - i) m (m + j) k := by
  unfold rot
  simp only [h]
  repeat' split
  all_goals first | rfl | (congr 1; omega) | omega
theorem rot_even {d e : Nat → Nat} {m i : Nat} (hi : i ≤ m) (h : ∀ k, e k = if m - i ≤ k ∧ k < m - i + i then d (k - (m - i) + m) else if m ≤ k ∧ k < m + i then d (k - m + (m - i)) else d k) (k : Nat) : e k = rot d (m - i) m (m + i) k := by
  unfold rot
  simp only [h]
  repeat' split
  all_goals first | rfl | (congr 1; omega) | omega

set_option maxRecDepth 100000 in
set_option maxHeartbeats 4000000 in
theorem rotate_any (R : Rws) (W0 : World) (g cap a m b lo hi : Nat) (d : Array Nat) (w : World) (S : SW R W0 g d w) (ham : a < m) (hmb : m < b) (hlo : lo ≤ a) (hhi : b ≤ hi) (hhs : hi ≤ d.size) (hsz : d.size ≤ 4611686018427387904) :
    Calls Try.prog 33 #[.slice (some ⟨g, 0, none⟩) d.size cap, .int .i64 a, .int .i64 m, .int .i64 b, .func (.func 26) #[] #[R.c1, R.c2]] w fun e w' => e = .returned (.tuple #[]) ∧ ∃ d', SW R W0 g d' w' ∧ PermIn lo hi d d' ∧ ∀ k, d'[k]! = rot (fun k => d[k]!) a m b k := by
  have y1 : (m : Int) - (a : Int) = ((m - a : Nat) : Int) := by omega
  have y2 : (b : Int) - (m : Int) = ((b - m : Nat) : Int) := by omega
  go_enter Try.func33, Try.ntmps33
  go_wp2
  go_loopw [10, 11] (fun vi vj wr => ∃ (i j : Nat) (e : Array Nat), vi = .int .i64 i ∧ vj = .int .i64 j ∧ 1 ≤ i ∧ i ≤ m - a ∧ 1 ≤ j ∧ j ≤ b - m ∧ Hid (SW R W0 g e wr ∧ PermIn lo hi d e ∧ ∀ k, rot (fun k => e[k]!) (m - i) m (m + j) k = rot (fun k => d[k]!) a m b k)) (fun vi vj _ => (intOf vi).toNat + (intOf vj).toNat)
  case atStart => exact ⟨m - a, b - m, d, by first | rfl | go_num, by first | rfl | go_num, by omega, by omega, by omega, by omega, ⟨S, permIn_refl, fun k => by rw [show m - (m - a) = a by omega, show m + (b - m) = b by omega]⟩⟩
  case round =>
    clear S y1 y2
    obtain ⟨i, j, e, rfl, rfl, hi1, hi2, hj1, hj2, HH⟩ := hrel
    have hse : e.size = d.size := HH.out.2.1.1
    have x1 : (m : Int) - (i : Int) = ((m - i : Nat) : Int) := by omega
    by_cases hij : i = j
    · subst hij
      have hne : ((i : Int) != (i : Int)) = false := by simp
      go_wp2_with fail
      have hc := swapRange_any R W0 g cap (m - i) m i lo hi e wr (.func (.func 26) #[] #[R.c1, R.c2]) HH.out.1 (by omega) (by omega) (by omega) (by omega) (by omega) (by omega)
      rw [hse] at hc
      refine hc.mono ?_
      rintro e' w' ⟨rfl, d', S', P', h'⟩
      go_wp2
      go_end0
      refine ⟨rfl, d', S', permIn_trans HH.out.2.1 P', fun k => ?_⟩
      rw [← HH.out.2.2 k]
      exact rot_even (d := fun k => e[k]!) (e := fun k => d'[k]!) (by omega) (fun k => by rw [h']; rfl) k
    · have hne : ((i : Int) != (j : Int)) = true := by rw [bne_iff_ne]; omega
      by_cases hgt : j < i
      · have x2 : decide ((i : Int) > (j : Int)) = true := decide_eq_true (by omega)
        have x3 : (i : Int) - (j : Int) = ((i - j : Nat) : Int) := by omega
        have x4 : (j : Int) < (i : Int) := by omega
        go_wp2_with fail
        have hc := swapRange_any R W0 g cap (m - i) m j lo hi e wr (.func (.func 26) #[] #[R.c1, R.c2]) HH.out.1 (by omega) (by omega) (by omega) (by omega) (by omega) (by omega)
        rw [hse] at hc
        refine hc.mono ?_
        rintro e' w' ⟨rfl, d', S', P', h'⟩
        go_wp2
        go_roundw
        case rel =>
          refine ⟨i - j, j, d', rfl, rfl, by omega, by omega, by omega, by omega, ⟨S', permIn_trans HH.out.2.1 P', fun k => ?_⟩⟩
          rw [← HH.out.2.2 k, show m - (i - j) = m - i + j by omega]
          exact rot_left (d := fun k => e[k]!) (e := fun k => d'[k]!) hgt (by omega) (fun k => by rw [h']; rfl) k
        case measure => simp [intOf]; omega
      · have x2 : decide ((i : Int) > (j : Int)) = false := decide_eq_false (by omega)
        have x3 : (j : Int) - (i : Int) = ((j - i : Nat) : Int) := by omega
        have x4 : ¬ (j : Int) < (i : Int) := by omega
        have x5 : (m : Int) + (j : Int) - (i : Int) = ((m + j - i : Nat) : Int) := by omega
        go_wp2_with fail
        have hc := swapRange_any R W0 g cap (m - i) (m + j - i) i lo hi e wr (.func (.func 26) #[] #[R.c1, R.c2]) HH.out.1 (by omega) (by omega) (by omega) (by omega) (by omega) (by omega)
        rw [hse] at hc
        refine hc.mono ?_
        rintro e' w' ⟨rfl, d', S', P', h'⟩
        go_wp2
        go_roundw
        case rel =>
          refine ⟨i, j - i, d', rfl, rfl, by omega, by omega, by omega, by omega, ⟨S', permIn_trans HH.out.2.1 P', fun k => ?_⟩⟩
          rw [← HH.out.2.2 k, show m + (j - i) = m + j - i by omega]
          exact rot_right (d := fun k => e[k]!) (e := fun k => d'[k]!) (by omega) (by omega) (fun k => by rw [h']; rfl) k
        case measure => simp [intOf]; omega

end Go.Proofs.Ytflbeccfdbjbhaa
