/- ValueRest: a number is its quotient times the divisor, and a rest that is less, and of no other sign; else the division is refused, as it must be: true for every input, without a condition. -/
import Derived.Test.YtklbomfcejgbmaaValC
import Derived.Test.YtklbomfcejgbmaaValE
import Derived.Test.YtklbomfcejgbmaaBox
import Derived.Test.YtklbomfcejgbmaaFrame
namespace Go.Proofs.Ytklbomfcejgbmaa
open Go.ChangeShapes Go.WideShapes Go.ChangeAt Go.RowKit Go.Joins

set_option maxHeartbeats 4000000 in
theorem rest_zero (a : Int) (w : World) (ha : inR a = true) (hD : arith 7 (num a) (num 0) = (nul, 4)) : Calls Try.prog 7 #[.int .i64 a, .int .i64 0] w fun e w' => e = .returned (.bool true) ∧ Below w.heap.size w w' := by
  have HD := Lib.hid hD
  clear hD
  have E := ext_refl w
  go_enter Try.func7, Try.ntmps7
  go_wp2_with fail
  refine (examples_any _).mono ?_
  rintro e W1 ⟨rfl, hb⟩
  have E := ext_trans E hb
  clear hb
  go_wp2_with fail
  refine (n_any _ _).mono ?_
  rintro e W2 ⟨rfl, hb⟩
  have E := ext_trans E hb
  clear hb
  go_wp2_with fail
  refine (n_any _ _).mono ?_
  rintro e W3 ⟨rfl, hb⟩
  have E := ext_trans E hb
  clear hb
  go_wp2_with fail
  refine (div_any (num a) (num 0) _ ha (by decide)).mono ?_
  rintro e W4 ⟨rfl, hb⟩
  rw [HD.out]
  have E := ext_trans E hb
  clear hb
  go_wp2_with fail
  go_ret
  refine ⟨rfl, ?_⟩
  (repeat (first | exact ext_refl _ | assumption | (refine ext_alloc ?_ _) | (refine ext_drewN ?_ _) | refine ext_drew ?_ | (refine ext_set (by first | (simp; done) | (simp; omega)) _ ?_) | (refine ext_trans ?_ (by assumption))))

set_option maxHeartbeats 4000000 in
theorem rest_over (w : World) (hD : arith 7 (num (-9223372036854775808)) (num (-1)) = (nul, 3)) : Calls Try.prog 7 #[.int .i64 (-9223372036854775808), .int .i64 (-1)] w fun e w' => e = .returned (.bool true) ∧ Below w.heap.size w w' := by
  have HD := Lib.hid hD
  clear hD
  have E := ext_refl w
  go_enter Try.func7, Try.ntmps7
  go_wp2_with fail
  refine (examples_any _).mono ?_
  rintro e W1 ⟨rfl, hb⟩
  have E := ext_trans E hb
  clear hb
  go_wp2_with fail
  refine (n_any _ _).mono ?_
  rintro e W2 ⟨rfl, hb⟩
  have E := ext_trans E hb
  clear hb
  go_wp2_with fail
  refine (n_any _ _).mono ?_
  rintro e W3 ⟨rfl, hb⟩
  have E := ext_trans E hb
  clear hb
  go_wp2_with fail
  refine (div_any (num (-9223372036854775808)) (num (-1)) _ (by decide) (by decide)).mono ?_
  rintro e W4 ⟨rfl, hb⟩
  rw [HD.out]
  have E := ext_trans E hb
  clear hb
  go_wp2_with fail
  go_ret
  refine ⟨rfl, ?_⟩
  (repeat (first | exact ext_refl _ | assumption | (refine ext_alloc ?_ _) | (refine ext_drewN ?_ _) | refine ext_drew ?_ | (refine ext_set (by first | (simp; done) | (simp; omega)) _ ?_) | (refine ext_trans ?_ (by assumption))))

end Go.Proofs.Ytklbomfcejgbmaa
