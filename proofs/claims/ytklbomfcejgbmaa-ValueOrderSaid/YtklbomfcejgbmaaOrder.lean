/- ValueOrder: Compare is an order of all values: turned round it is the other way, what is ahead of what is ahead is ahead, and only the same is even: true for every input, without a condition. -/
import Derived.Test.YtklbomfcejgbmaaValO
import Derived.Test.YtklbomfcejgbmaaValE
import Derived.Test.YtklbomfcejgbmaaBox
import Derived.Test.YtklbomfcejgbmaaFrame
namespace Go.Proofs.Ytklbomfcejgbmaa
open Go.ChangeShapes Go.WideShapes Go.ChangeAt Go.RowKit Go.Joins

set_option maxHeartbeats 4000000 in
set_option maxRecDepth 100000 in
theorem order_gt (k n l m i j : Int) (s t u : ByteArray) (w : World) (Y Z : Int) (hX : Val.cmp ⟨k, n, s⟩ ⟨l, m, t⟩ = 1) (hX' : Val.cmp ⟨l, m, t⟩ ⟨k, n, s⟩ = -1) (hY : Val.cmp ⟨l, m, t⟩ ⟨i, j, u⟩ = Y) (hZ : Val.cmp ⟨k, n, s⟩ ⟨i, j, u⟩ = Z)
    (d : (k == l) = false ∨ (k == l) = true ∧ (n == m) = false ∨ (k == l) = true ∧ (n == m) = true ∧ (s.toList == t.toList) = false)  : Calls Try.prog 5 #[(Val.mk k n s).v, (Val.mk l m t).v, (Val.mk i j u).v] w fun e w' => e = .returned (.bool true) ∧ Below w.heap.size w w' := by
  have HX := Lib.hid hX
  have HX' := Lib.hid hX'
  have HY := Lib.hid hY
  have HZ := Lib.hid hZ
  clear hX hX' hY hZ
  rcases d with d1 | ⟨d1, d2⟩ | ⟨d1, d2, d3⟩
  · have E := ext_refl w
    go_enter Try.func5, Try.ntmps5
    go_wp2_with fail
    refine (examples_any _).mono ?_
    rintro e W1 ⟨rfl, hb⟩
    have Pa := (((Box.new w k n s _).alloc _).alloc _).ext hb
    have Pb := ((Box.new1 w _ l m t _).alloc _).ext hb
    have Pc := (Box.new2 w _ _ i j u _).ext hb
    have E := ext_trans (ext_alloc (ext_alloc (ext_alloc (E) _) _) _) hb
    have nab : w.heap.size ≠ w.heap.size + 1 := by omega
    have nac : w.heap.size ≠ w.heap.size + 1 + 1 := by omega
    have nbc : w.heap.size + 1 ≠ w.heap.size + 1 + 1 := by omega
    have ga : w.heap.size ≤ w.heap.size := by omega
    have gb : w.heap.size ≤ w.heap.size + 1 := by omega
    have gc : w.heap.size ≤ w.heap.size + 1 + 1 := by omega
    clear hb
    obtain ⟨la, ca0, ca1, ca2, fa⟩ := id Pa
    obtain ⟨lb, cb0, cb1, cb2, fb⟩ := id Pb
    obtain ⟨lc, cc0, cc1, cc2, fc⟩ := id Pc
    go_wp2_with fail
    refine (compare_any ⟨k, n, s⟩ ⟨l, m, t⟩ _).mono ?_
    rintro e W2 ⟨rfl, hb⟩
    rw [HX.out]
    clear la ca0 ca1 ca2 fa lb cb0 cb1 cb2 fb lc cc0 cc1 cc2 fc
    have Pa := (Pa).ext hb
    have Pb := (Pb).ext hb
    have Pc := (Pc).ext hb
    have E := ext_trans (E) hb
    clear hb
    obtain ⟨la, ca0, ca1, ca2, fa⟩ := id Pa
    obtain ⟨lb, cb0, cb1, cb2, fb⟩ := id Pb
    obtain ⟨lc, cc0, cc1, cc2, fc⟩ := id Pc
    go_wp2_with fail
    refine (compare_any ⟨l, m, t⟩ ⟨i, j, u⟩ _).mono ?_
    rintro e W3 ⟨rfl, hb⟩
    rw [HY.out]
    clear la ca0 ca1 ca2 fa lb cb0 cb1 cb2 fb lc cc0 cc1 cc2 fc
    have Pa := (Pa).ext hb
    have Pb := (Pb).ext hb
    have Pc := (Pc).ext hb
    have E := ext_trans (E) hb
    clear hb
    obtain ⟨la, ca0, ca1, ca2, fa⟩ := id Pa
    obtain ⟨lb, cb0, cb1, cb2, fb⟩ := id Pb
    obtain ⟨lc, cc0, cc1, cc2, fc⟩ := id Pc
    go_wp2_with fail
    refine (compare_any ⟨k, n, s⟩ ⟨i, j, u⟩ _).mono ?_
    rintro e W4 ⟨rfl, hb⟩
    rw [HZ.out]
    clear la ca0 ca1 ca2 fa lb cb0 cb1 cb2 fb lc cc0 cc1 cc2 fc
    have Pa := (Pa).ext hb
    have Pb := (Pb).ext hb
    have Pc := (Pc).ext hb
    have E := ext_trans (E) hb
    clear hb
    obtain ⟨la, ca0, ca1, ca2, fa⟩ := id Pa
    obtain ⟨lb, cb0, cb1, cb2, fb⟩ := id Pb
    obtain ⟨lc, cc0, cc1, cc2, fc⟩ := id Pc
    go_wp2_with fail
    refine (compare_any ⟨l, m, t⟩ ⟨k, n, s⟩ _).mono ?_
    rintro e W5 ⟨rfl, hb⟩
    rw [HX'.out]
    clear la ca0 ca1 ca2 fa lb cb0 cb1 cb2 fb lc cc0 cc1 cc2 fc
    have Pa := (Pa).ext hb
    have Pb := (Pb).ext hb
    have Pc := (Pc).ext hb
    have E := ext_trans (E) hb
    clear hb
    obtain ⟨la, ca0, ca1, ca2, fa⟩ := id Pa
    obtain ⟨lb, cb0, cb1, cb2, fb⟩ := id Pb
    obtain ⟨lc, cc0, cc1, cc2, fc⟩ := id Pc
    go_wp2_with fail
    go_ret
    refine ⟨by first | rfl | (simp; done) | (simp; omega), ?_⟩
    (repeat (first | exact ext_refl _ | assumption | (refine ext_alloc ?_ _) | (refine ext_drewN ?_ _) | refine ext_drew ?_ | (refine ext_set (by first | (simp; done) | (simp; omega)) _ ?_) | (refine ext_trans ?_ (by assumption))))
  · have E := ext_refl w
    go_enter Try.func5, Try.ntmps5
    go_wp2_with fail
    refine (examples_any _).mono ?_
    rintro e W1 ⟨rfl, hb⟩
    have Pa := (((Box.new w k n s _).alloc _).alloc _).ext hb
    have Pb := ((Box.new1 w _ l m t _).alloc _).ext hb
    have Pc := (Box.new2 w _ _ i j u _).ext hb
    have E := ext_trans (ext_alloc (ext_alloc (ext_alloc (E) _) _) _) hb
    have nab : w.heap.size ≠ w.heap.size + 1 := by omega
    have nac : w.heap.size ≠ w.heap.size + 1 + 1 := by omega
    have nbc : w.heap.size + 1 ≠ w.heap.size + 1 + 1 := by omega
    have ga : w.heap.size ≤ w.heap.size := by omega
    have gb : w.heap.size ≤ w.heap.size + 1 := by omega
    have gc : w.heap.size ≤ w.heap.size + 1 + 1 := by omega
    clear hb
    obtain ⟨la, ca0, ca1, ca2, fa⟩ := id Pa
    obtain ⟨lb, cb0, cb1, cb2, fb⟩ := id Pb
    obtain ⟨lc, cc0, cc1, cc2, fc⟩ := id Pc
    go_wp2_with fail
    refine (compare_any ⟨k, n, s⟩ ⟨l, m, t⟩ _).mono ?_
    rintro e W2 ⟨rfl, hb⟩
    rw [HX.out]
    clear la ca0 ca1 ca2 fa lb cb0 cb1 cb2 fb lc cc0 cc1 cc2 fc
    have Pa := (Pa).ext hb
    have Pb := (Pb).ext hb
    have Pc := (Pc).ext hb
    have E := ext_trans (E) hb
    clear hb
    obtain ⟨la, ca0, ca1, ca2, fa⟩ := id Pa
    obtain ⟨lb, cb0, cb1, cb2, fb⟩ := id Pb
    obtain ⟨lc, cc0, cc1, cc2, fc⟩ := id Pc
    go_wp2_with fail
    refine (compare_any ⟨l, m, t⟩ ⟨i, j, u⟩ _).mono ?_
    rintro e W3 ⟨rfl, hb⟩
    rw [HY.out]
    clear la ca0 ca1 ca2 fa lb cb0 cb1 cb2 fb lc cc0 cc1 cc2 fc
    have Pa := (Pa).ext hb
    have Pb := (Pb).ext hb
    have Pc := (Pc).ext hb
    have E := ext_trans (E) hb
    clear hb
    obtain ⟨la, ca0, ca1, ca2, fa⟩ := id Pa
    obtain ⟨lb, cb0, cb1, cb2, fb⟩ := id Pb
    obtain ⟨lc, cc0, cc1, cc2, fc⟩ := id Pc
    go_wp2_with fail
    refine (compare_any ⟨k, n, s⟩ ⟨i, j, u⟩ _).mono ?_
    rintro e W4 ⟨rfl, hb⟩
    rw [HZ.out]
    clear la ca0 ca1 ca2 fa lb cb0 cb1 cb2 fb lc cc0 cc1 cc2 fc
    have Pa := (Pa).ext hb
    have Pb := (Pb).ext hb
    have Pc := (Pc).ext hb
    have E := ext_trans (E) hb
    clear hb
    obtain ⟨la, ca0, ca1, ca2, fa⟩ := id Pa
    obtain ⟨lb, cb0, cb1, cb2, fb⟩ := id Pb
    obtain ⟨lc, cc0, cc1, cc2, fc⟩ := id Pc
    go_wp2_with fail
    refine (compare_any ⟨l, m, t⟩ ⟨k, n, s⟩ _).mono ?_
    rintro e W5 ⟨rfl, hb⟩
    rw [HX'.out]
    clear la ca0 ca1 ca2 fa lb cb0 cb1 cb2 fb lc cc0 cc1 cc2 fc
    have Pa := (Pa).ext hb
    have Pb := (Pb).ext hb
    have Pc := (Pc).ext hb
    have E := ext_trans (E) hb
    clear hb
    obtain ⟨la, ca0, ca1, ca2, fa⟩ := id Pa
    obtain ⟨lb, cb0, cb1, cb2, fb⟩ := id Pb
    obtain ⟨lc, cc0, cc1, cc2, fc⟩ := id Pc
    go_wp2_with fail
    go_ret
    refine ⟨by first | rfl | (simp; done) | (simp; omega), ?_⟩
    (repeat (first | exact ext_refl _ | assumption | (refine ext_alloc ?_ _) | (refine ext_drewN ?_ _) | refine ext_drew ?_ | (refine ext_set (by first | (simp; done) | (simp; omega)) _ ?_) | (refine ext_trans ?_ (by assumption))))
  · have E := ext_refl w
    go_enter Try.func5, Try.ntmps5
    go_wp2_with fail
    refine (examples_any _).mono ?_
    rintro e W1 ⟨rfl, hb⟩
    have Pa := (((Box.new w k n s _).alloc _).alloc _).ext hb
    have Pb := ((Box.new1 w _ l m t _).alloc _).ext hb
    have Pc := (Box.new2 w _ _ i j u _).ext hb
    have E := ext_trans (ext_alloc (ext_alloc (ext_alloc (E) _) _) _) hb
    have nab : w.heap.size ≠ w.heap.size + 1 := by omega
    have nac : w.heap.size ≠ w.heap.size + 1 + 1 := by omega
    have nbc : w.heap.size + 1 ≠ w.heap.size + 1 + 1 := by omega
    have ga : w.heap.size ≤ w.heap.size := by omega
    have gb : w.heap.size ≤ w.heap.size + 1 := by omega
    have gc : w.heap.size ≤ w.heap.size + 1 + 1 := by omega
    clear hb
    obtain ⟨la, ca0, ca1, ca2, fa⟩ := id Pa
    obtain ⟨lb, cb0, cb1, cb2, fb⟩ := id Pb
    obtain ⟨lc, cc0, cc1, cc2, fc⟩ := id Pc
    go_wp2_with fail
    refine (compare_any ⟨k, n, s⟩ ⟨l, m, t⟩ _).mono ?_
    rintro e W2 ⟨rfl, hb⟩
    rw [HX.out]
    clear la ca0 ca1 ca2 fa lb cb0 cb1 cb2 fb lc cc0 cc1 cc2 fc
    have Pa := (Pa).ext hb
    have Pb := (Pb).ext hb
    have Pc := (Pc).ext hb
    have E := ext_trans (E) hb
    clear hb
    obtain ⟨la, ca0, ca1, ca2, fa⟩ := id Pa
    obtain ⟨lb, cb0, cb1, cb2, fb⟩ := id Pb
    obtain ⟨lc, cc0, cc1, cc2, fc⟩ := id Pc
    go_wp2_with fail
    refine (compare_any ⟨l, m, t⟩ ⟨i, j, u⟩ _).mono ?_
    rintro e W3 ⟨rfl, hb⟩
    rw [HY.out]
    clear la ca0 ca1 ca2 fa lb cb0 cb1 cb2 fb lc cc0 cc1 cc2 fc
    have Pa := (Pa).ext hb
    have Pb := (Pb).ext hb
    have Pc := (Pc).ext hb
    have E := ext_trans (E) hb
    clear hb
    obtain ⟨la, ca0, ca1, ca2, fa⟩ := id Pa
    obtain ⟨lb, cb0, cb1, cb2, fb⟩ := id Pb
    obtain ⟨lc, cc0, cc1, cc2, fc⟩ := id Pc
    go_wp2_with fail
    refine (compare_any ⟨k, n, s⟩ ⟨i, j, u⟩ _).mono ?_
    rintro e W4 ⟨rfl, hb⟩
    rw [HZ.out]
    clear la ca0 ca1 ca2 fa lb cb0 cb1 cb2 fb lc cc0 cc1 cc2 fc
    have Pa := (Pa).ext hb
    have Pb := (Pb).ext hb
    have Pc := (Pc).ext hb
    have E := ext_trans (E) hb
    clear hb
    obtain ⟨la, ca0, ca1, ca2, fa⟩ := id Pa
    obtain ⟨lb, cb0, cb1, cb2, fb⟩ := id Pb
    obtain ⟨lc, cc0, cc1, cc2, fc⟩ := id Pc
    go_wp2_with fail
    refine (compare_any ⟨l, m, t⟩ ⟨k, n, s⟩ _).mono ?_
    rintro e W5 ⟨rfl, hb⟩
    rw [HX'.out]
    clear la ca0 ca1 ca2 fa lb cb0 cb1 cb2 fb lc cc0 cc1 cc2 fc
    have Pa := (Pa).ext hb
    have Pb := (Pb).ext hb
    have Pc := (Pc).ext hb
    have E := ext_trans (E) hb
    clear hb
    obtain ⟨la, ca0, ca1, ca2, fa⟩ := id Pa
    obtain ⟨lb, cb0, cb1, cb2, fb⟩ := id Pb
    obtain ⟨lc, cc0, cc1, cc2, fc⟩ := id Pc
    go_wp2_with fail
    go_ret
    refine ⟨by first | rfl | (simp; done) | (simp; omega), ?_⟩
    (repeat (first | exact ext_refl _ | assumption | (refine ext_alloc ?_ _) | (refine ext_drewN ?_ _) | refine ext_drew ?_ | (refine ext_set (by first | (simp; done) | (simp; omega)) _ ?_) | (refine ext_trans ?_ (by assumption))))

set_option maxHeartbeats 4000000 in
set_option maxRecDepth 100000 in
theorem order_lt1 (k n l m i j : Int) (s t u : ByteArray) (w : World) (Y Z : Int) (hX : Val.cmp ⟨k, n, s⟩ ⟨l, m, t⟩ = -1) (hX' : Val.cmp ⟨l, m, t⟩ ⟨k, n, s⟩ = 1) (hY : Val.cmp ⟨l, m, t⟩ ⟨i, j, u⟩ = Y) (hZ : Val.cmp ⟨k, n, s⟩ ⟨i, j, u⟩ = Z)
    (d : (k == l) = false ∨ (k == l) = true ∧ (n == m) = false ∨ (k == l) = true ∧ (n == m) = true ∧ (s.toList == t.toList) = false) (h2 : 0 < Y) : Calls Try.prog 5 #[(Val.mk k n s).v, (Val.mk l m t).v, (Val.mk i j u).v] w fun e w' => e = .returned (.bool true) ∧ Below w.heap.size w w' := by
  have HX := Lib.hid hX
  have HX' := Lib.hid hX'
  have HY := Lib.hid hY
  have HZ := Lib.hid hZ
  clear hX hX' hY hZ
  rcases d with d1 | ⟨d1, d2⟩ | ⟨d1, d2, d3⟩
  · have E := ext_refl w
    go_enter Try.func5, Try.ntmps5
    go_wp2_with fail
    refine (examples_any _).mono ?_
    rintro e W1 ⟨rfl, hb⟩
    have Pa := (((Box.new w k n s _).alloc _).alloc _).ext hb
    have Pb := ((Box.new1 w _ l m t _).alloc _).ext hb
    have Pc := (Box.new2 w _ _ i j u _).ext hb
    have E := ext_trans (ext_alloc (ext_alloc (ext_alloc (E) _) _) _) hb
    have nab : w.heap.size ≠ w.heap.size + 1 := by omega
    have nac : w.heap.size ≠ w.heap.size + 1 + 1 := by omega
    have nbc : w.heap.size + 1 ≠ w.heap.size + 1 + 1 := by omega
    have ga : w.heap.size ≤ w.heap.size := by omega
    have gb : w.heap.size ≤ w.heap.size + 1 := by omega
    have gc : w.heap.size ≤ w.heap.size + 1 + 1 := by omega
    clear hb
    obtain ⟨la, ca0, ca1, ca2, fa⟩ := id Pa
    obtain ⟨lb, cb0, cb1, cb2, fb⟩ := id Pb
    obtain ⟨lc, cc0, cc1, cc2, fc⟩ := id Pc
    go_wp2_with fail
    refine (compare_any ⟨k, n, s⟩ ⟨l, m, t⟩ _).mono ?_
    rintro e W2 ⟨rfl, hb⟩
    rw [HX.out]
    clear la ca0 ca1 ca2 fa lb cb0 cb1 cb2 fb lc cc0 cc1 cc2 fc
    have Pa := (Pa).ext hb
    have Pb := (Pb).ext hb
    have Pc := (Pc).ext hb
    have E := ext_trans (E) hb
    clear hb
    obtain ⟨la, ca0, ca1, ca2, fa⟩ := id Pa
    obtain ⟨lb, cb0, cb1, cb2, fb⟩ := id Pb
    obtain ⟨lc, cc0, cc1, cc2, fc⟩ := id Pc
    go_wp2_with fail
    refine (compare_any ⟨l, m, t⟩ ⟨i, j, u⟩ _).mono ?_
    rintro e W3 ⟨rfl, hb⟩
    rw [HY.out]
    clear la ca0 ca1 ca2 fa lb cb0 cb1 cb2 fb lc cc0 cc1 cc2 fc
    have Pa := (Pa).ext hb
    have Pb := (Pb).ext hb
    have Pc := (Pc).ext hb
    have E := ext_trans (E) hb
    clear hb
    obtain ⟨la, ca0, ca1, ca2, fa⟩ := id Pa
    obtain ⟨lb, cb0, cb1, cb2, fb⟩ := id Pb
    obtain ⟨lc, cc0, cc1, cc2, fc⟩ := id Pc
    go_wp2_with fail
    refine (compare_any ⟨k, n, s⟩ ⟨i, j, u⟩ _).mono ?_
    rintro e W4 ⟨rfl, hb⟩
    rw [HZ.out]
    clear la ca0 ca1 ca2 fa lb cb0 cb1 cb2 fb lc cc0 cc1 cc2 fc
    have Pa := (Pa).ext hb
    have Pb := (Pb).ext hb
    have Pc := (Pc).ext hb
    have E := ext_trans (E) hb
    clear hb
    obtain ⟨la, ca0, ca1, ca2, fa⟩ := id Pa
    obtain ⟨lb, cb0, cb1, cb2, fb⟩ := id Pb
    obtain ⟨lc, cc0, cc1, cc2, fc⟩ := id Pc
    go_wp2_with fail
    refine (compare_any ⟨l, m, t⟩ ⟨k, n, s⟩ _).mono ?_
    rintro e W5 ⟨rfl, hb⟩
    rw [HX'.out]
    clear la ca0 ca1 ca2 fa lb cb0 cb1 cb2 fb lc cc0 cc1 cc2 fc
    have Pa := (Pa).ext hb
    have Pb := (Pb).ext hb
    have Pc := (Pc).ext hb
    have E := ext_trans (E) hb
    clear hb
    obtain ⟨la, ca0, ca1, ca2, fa⟩ := id Pa
    obtain ⟨lb, cb0, cb1, cb2, fb⟩ := id Pb
    obtain ⟨lc, cc0, cc1, cc2, fc⟩ := id Pc
    go_wp2_with fail
    go_ret
    refine ⟨by first | rfl | (simp; done) | (simp; omega), ?_⟩
    (repeat (first | exact ext_refl _ | assumption | (refine ext_alloc ?_ _) | (refine ext_drewN ?_ _) | refine ext_drew ?_ | (refine ext_set (by first | (simp; done) | (simp; omega)) _ ?_) | (refine ext_trans ?_ (by assumption))))
  · have E := ext_refl w
    go_enter Try.func5, Try.ntmps5
    go_wp2_with fail
    refine (examples_any _).mono ?_
    rintro e W1 ⟨rfl, hb⟩
    have Pa := (((Box.new w k n s _).alloc _).alloc _).ext hb
    have Pb := ((Box.new1 w _ l m t _).alloc _).ext hb
    have Pc := (Box.new2 w _ _ i j u _).ext hb
    have E := ext_trans (ext_alloc (ext_alloc (ext_alloc (E) _) _) _) hb
    have nab : w.heap.size ≠ w.heap.size + 1 := by omega
    have nac : w.heap.size ≠ w.heap.size + 1 + 1 := by omega
    have nbc : w.heap.size + 1 ≠ w.heap.size + 1 + 1 := by omega
    have ga : w.heap.size ≤ w.heap.size := by omega
    have gb : w.heap.size ≤ w.heap.size + 1 := by omega
    have gc : w.heap.size ≤ w.heap.size + 1 + 1 := by omega
    clear hb
    obtain ⟨la, ca0, ca1, ca2, fa⟩ := id Pa
    obtain ⟨lb, cb0, cb1, cb2, fb⟩ := id Pb
    obtain ⟨lc, cc0, cc1, cc2, fc⟩ := id Pc
    go_wp2_with fail
    refine (compare_any ⟨k, n, s⟩ ⟨l, m, t⟩ _).mono ?_
    rintro e W2 ⟨rfl, hb⟩
    rw [HX.out]
    clear la ca0 ca1 ca2 fa lb cb0 cb1 cb2 fb lc cc0 cc1 cc2 fc
    have Pa := (Pa).ext hb
    have Pb := (Pb).ext hb
    have Pc := (Pc).ext hb
    have E := ext_trans (E) hb
    clear hb
    obtain ⟨la, ca0, ca1, ca2, fa⟩ := id Pa
    obtain ⟨lb, cb0, cb1, cb2, fb⟩ := id Pb
    obtain ⟨lc, cc0, cc1, cc2, fc⟩ := id Pc
    go_wp2_with fail
    refine (compare_any ⟨l, m, t⟩ ⟨i, j, u⟩ _).mono ?_
    rintro e W3 ⟨rfl, hb⟩
    rw [HY.out]
    clear la ca0 ca1 ca2 fa lb cb0 cb1 cb2 fb lc cc0 cc1 cc2 fc
    have Pa := (Pa).ext hb
    have Pb := (Pb).ext hb
    have Pc := (Pc).ext hb
    have E := ext_trans (E) hb
    clear hb
    obtain ⟨la, ca0, ca1, ca2, fa⟩ := id Pa
    obtain ⟨lb, cb0, cb1, cb2, fb⟩ := id Pb
    obtain ⟨lc, cc0, cc1, cc2, fc⟩ := id Pc
    go_wp2_with fail
    refine (compare_any ⟨k, n, s⟩ ⟨i, j, u⟩ _).mono ?_
    rintro e W4 ⟨rfl, hb⟩
    rw [HZ.out]
    clear la ca0 ca1 ca2 fa lb cb0 cb1 cb2 fb lc cc0 cc1 cc2 fc
    have Pa := (Pa).ext hb
    have Pb := (Pb).ext hb
    have Pc := (Pc).ext hb
    have E := ext_trans (E) hb
    clear hb
    obtain ⟨la, ca0, ca1, ca2, fa⟩ := id Pa
    obtain ⟨lb, cb0, cb1, cb2, fb⟩ := id Pb
    obtain ⟨lc, cc0, cc1, cc2, fc⟩ := id Pc
    go_wp2_with fail
    refine (compare_any ⟨l, m, t⟩ ⟨k, n, s⟩ _).mono ?_
    rintro e W5 ⟨rfl, hb⟩
    rw [HX'.out]
    clear la ca0 ca1 ca2 fa lb cb0 cb1 cb2 fb lc cc0 cc1 cc2 fc
    have Pa := (Pa).ext hb
    have Pb := (Pb).ext hb
    have Pc := (Pc).ext hb
    have E := ext_trans (E) hb
    clear hb
    obtain ⟨la, ca0, ca1, ca2, fa⟩ := id Pa
    obtain ⟨lb, cb0, cb1, cb2, fb⟩ := id Pb
    obtain ⟨lc, cc0, cc1, cc2, fc⟩ := id Pc
    go_wp2_with fail
    go_ret
    refine ⟨by first | rfl | (simp; done) | (simp; omega), ?_⟩
    (repeat (first | exact ext_refl _ | assumption | (refine ext_alloc ?_ _) | (refine ext_drewN ?_ _) | refine ext_drew ?_ | (refine ext_set (by first | (simp; done) | (simp; omega)) _ ?_) | (refine ext_trans ?_ (by assumption))))
  · have E := ext_refl w
    go_enter Try.func5, Try.ntmps5
    go_wp2_with fail
    refine (examples_any _).mono ?_
    rintro e W1 ⟨rfl, hb⟩
    have Pa := (((Box.new w k n s _).alloc _).alloc _).ext hb
    have Pb := ((Box.new1 w _ l m t _).alloc _).ext hb
    have Pc := (Box.new2 w _ _ i j u _).ext hb
    have E := ext_trans (ext_alloc (ext_alloc (ext_alloc (E) _) _) _) hb
    have nab : w.heap.size ≠ w.heap.size + 1 := by omega
    have nac : w.heap.size ≠ w.heap.size + 1 + 1 := by omega
    have nbc : w.heap.size + 1 ≠ w.heap.size + 1 + 1 := by omega
    have ga : w.heap.size ≤ w.heap.size := by omega
    have gb : w.heap.size ≤ w.heap.size + 1 := by omega
    have gc : w.heap.size ≤ w.heap.size + 1 + 1 := by omega
    clear hb
    obtain ⟨la, ca0, ca1, ca2, fa⟩ := id Pa
    obtain ⟨lb, cb0, cb1, cb2, fb⟩ := id Pb
    obtain ⟨lc, cc0, cc1, cc2, fc⟩ := id Pc
    go_wp2_with fail
    refine (compare_any ⟨k, n, s⟩ ⟨l, m, t⟩ _).mono ?_
    rintro e W2 ⟨rfl, hb⟩
    rw [HX.out]
    clear la ca0 ca1 ca2 fa lb cb0 cb1 cb2 fb lc cc0 cc1 cc2 fc
    have Pa := (Pa).ext hb
    have Pb := (Pb).ext hb
    have Pc := (Pc).ext hb
    have E := ext_trans (E) hb
    clear hb
    obtain ⟨la, ca0, ca1, ca2, fa⟩ := id Pa
    obtain ⟨lb, cb0, cb1, cb2, fb⟩ := id Pb
    obtain ⟨lc, cc0, cc1, cc2, fc⟩ := id Pc
    go_wp2_with fail
    refine (compare_any ⟨l, m, t⟩ ⟨i, j, u⟩ _).mono ?_
    rintro e W3 ⟨rfl, hb⟩
    rw [HY.out]
    clear la ca0 ca1 ca2 fa lb cb0 cb1 cb2 fb lc cc0 cc1 cc2 fc
    have Pa := (Pa).ext hb
    have Pb := (Pb).ext hb
    have Pc := (Pc).ext hb
    have E := ext_trans (E) hb
    clear hb
    obtain ⟨la, ca0, ca1, ca2, fa⟩ := id Pa
    obtain ⟨lb, cb0, cb1, cb2, fb⟩ := id Pb
    obtain ⟨lc, cc0, cc1, cc2, fc⟩ := id Pc
    go_wp2_with fail
    refine (compare_any ⟨k, n, s⟩ ⟨i, j, u⟩ _).mono ?_
    rintro e W4 ⟨rfl, hb⟩
    rw [HZ.out]
    clear la ca0 ca1 ca2 fa lb cb0 cb1 cb2 fb lc cc0 cc1 cc2 fc
    have Pa := (Pa).ext hb
    have Pb := (Pb).ext hb
    have Pc := (Pc).ext hb
    have E := ext_trans (E) hb
    clear hb
    obtain ⟨la, ca0, ca1, ca2, fa⟩ := id Pa
    obtain ⟨lb, cb0, cb1, cb2, fb⟩ := id Pb
    obtain ⟨lc, cc0, cc1, cc2, fc⟩ := id Pc
    go_wp2_with fail
    refine (compare_any ⟨l, m, t⟩ ⟨k, n, s⟩ _).mono ?_
    rintro e W5 ⟨rfl, hb⟩
    rw [HX'.out]
    clear la ca0 ca1 ca2 fa lb cb0 cb1 cb2 fb lc cc0 cc1 cc2 fc
    have Pa := (Pa).ext hb
    have Pb := (Pb).ext hb
    have Pc := (Pc).ext hb
    have E := ext_trans (E) hb
    clear hb
    obtain ⟨la, ca0, ca1, ca2, fa⟩ := id Pa
    obtain ⟨lb, cb0, cb1, cb2, fb⟩ := id Pb
    obtain ⟨lc, cc0, cc1, cc2, fc⟩ := id Pc
    go_wp2_with fail
    go_ret
    refine ⟨by first | rfl | (simp; done) | (simp; omega), ?_⟩
    (repeat (first | exact ext_refl _ | assumption | (refine ext_alloc ?_ _) | (refine ext_drewN ?_ _) | refine ext_drew ?_ | (refine ext_set (by first | (simp; done) | (simp; omega)) _ ?_) | (refine ext_trans ?_ (by assumption))))

set_option maxHeartbeats 4000000 in
set_option maxRecDepth 100000 in
theorem order_lt2 (k n l m i j : Int) (s t u : ByteArray) (w : World) (Y Z : Int) (hX : Val.cmp ⟨k, n, s⟩ ⟨l, m, t⟩ = -1) (hX' : Val.cmp ⟨l, m, t⟩ ⟨k, n, s⟩ = 1) (hY : Val.cmp ⟨l, m, t⟩ ⟨i, j, u⟩ = Y) (hZ : Val.cmp ⟨k, n, s⟩ ⟨i, j, u⟩ = Z)
    (d : (k == l) = false ∨ (k == l) = true ∧ (n == m) = false ∨ (k == l) = true ∧ (n == m) = true ∧ (s.toList == t.toList) = false) (h2 : Y ≤ 0) (h3 : Z < 0) : Calls Try.prog 5 #[(Val.mk k n s).v, (Val.mk l m t).v, (Val.mk i j u).v] w fun e w' => e = .returned (.bool true) ∧ Below w.heap.size w w' := by
  have HX := Lib.hid hX
  have HX' := Lib.hid hX'
  have HY := Lib.hid hY
  have HZ := Lib.hid hZ
  clear hX hX' hY hZ
  rcases d with d1 | ⟨d1, d2⟩ | ⟨d1, d2, d3⟩
  · have E := ext_refl w
    go_enter Try.func5, Try.ntmps5
    go_wp2_with fail
    refine (examples_any _).mono ?_
    rintro e W1 ⟨rfl, hb⟩
    have Pa := (((Box.new w k n s _).alloc _).alloc _).ext hb
    have Pb := ((Box.new1 w _ l m t _).alloc _).ext hb
    have Pc := (Box.new2 w _ _ i j u _).ext hb
    have E := ext_trans (ext_alloc (ext_alloc (ext_alloc (E) _) _) _) hb
    have nab : w.heap.size ≠ w.heap.size + 1 := by omega
    have nac : w.heap.size ≠ w.heap.size + 1 + 1 := by omega
    have nbc : w.heap.size + 1 ≠ w.heap.size + 1 + 1 := by omega
    have ga : w.heap.size ≤ w.heap.size := by omega
    have gb : w.heap.size ≤ w.heap.size + 1 := by omega
    have gc : w.heap.size ≤ w.heap.size + 1 + 1 := by omega
    clear hb
    obtain ⟨la, ca0, ca1, ca2, fa⟩ := id Pa
    obtain ⟨lb, cb0, cb1, cb2, fb⟩ := id Pb
    obtain ⟨lc, cc0, cc1, cc2, fc⟩ := id Pc
    go_wp2_with fail
    refine (compare_any ⟨k, n, s⟩ ⟨l, m, t⟩ _).mono ?_
    rintro e W2 ⟨rfl, hb⟩
    rw [HX.out]
    clear la ca0 ca1 ca2 fa lb cb0 cb1 cb2 fb lc cc0 cc1 cc2 fc
    have Pa := (Pa).ext hb
    have Pb := (Pb).ext hb
    have Pc := (Pc).ext hb
    have E := ext_trans (E) hb
    clear hb
    obtain ⟨la, ca0, ca1, ca2, fa⟩ := id Pa
    obtain ⟨lb, cb0, cb1, cb2, fb⟩ := id Pb
    obtain ⟨lc, cc0, cc1, cc2, fc⟩ := id Pc
    go_wp2_with fail
    refine (compare_any ⟨l, m, t⟩ ⟨i, j, u⟩ _).mono ?_
    rintro e W3 ⟨rfl, hb⟩
    rw [HY.out]
    clear la ca0 ca1 ca2 fa lb cb0 cb1 cb2 fb lc cc0 cc1 cc2 fc
    have Pa := (Pa).ext hb
    have Pb := (Pb).ext hb
    have Pc := (Pc).ext hb
    have E := ext_trans (E) hb
    clear hb
    obtain ⟨la, ca0, ca1, ca2, fa⟩ := id Pa
    obtain ⟨lb, cb0, cb1, cb2, fb⟩ := id Pb
    obtain ⟨lc, cc0, cc1, cc2, fc⟩ := id Pc
    go_wp2_with fail
    refine (compare_any ⟨k, n, s⟩ ⟨i, j, u⟩ _).mono ?_
    rintro e W4 ⟨rfl, hb⟩
    rw [HZ.out]
    clear la ca0 ca1 ca2 fa lb cb0 cb1 cb2 fb lc cc0 cc1 cc2 fc
    have Pa := (Pa).ext hb
    have Pb := (Pb).ext hb
    have Pc := (Pc).ext hb
    have E := ext_trans (E) hb
    clear hb
    obtain ⟨la, ca0, ca1, ca2, fa⟩ := id Pa
    obtain ⟨lb, cb0, cb1, cb2, fb⟩ := id Pb
    obtain ⟨lc, cc0, cc1, cc2, fc⟩ := id Pc
    go_wp2_with fail
    refine (compare_any ⟨l, m, t⟩ ⟨k, n, s⟩ _).mono ?_
    rintro e W5 ⟨rfl, hb⟩
    rw [HX'.out]
    clear la ca0 ca1 ca2 fa lb cb0 cb1 cb2 fb lc cc0 cc1 cc2 fc
    have Pa := (Pa).ext hb
    have Pb := (Pb).ext hb
    have Pc := (Pc).ext hb
    have E := ext_trans (E) hb
    clear hb
    obtain ⟨la, ca0, ca1, ca2, fa⟩ := id Pa
    obtain ⟨lb, cb0, cb1, cb2, fb⟩ := id Pb
    obtain ⟨lc, cc0, cc1, cc2, fc⟩ := id Pc
    go_wp2_with fail
    go_ret
    refine ⟨by first | rfl | (simp; done) | (simp; omega), ?_⟩
    (repeat (first | exact ext_refl _ | assumption | (refine ext_alloc ?_ _) | (refine ext_drewN ?_ _) | refine ext_drew ?_ | (refine ext_set (by first | (simp; done) | (simp; omega)) _ ?_) | (refine ext_trans ?_ (by assumption))))
  · have E := ext_refl w
    go_enter Try.func5, Try.ntmps5
    go_wp2_with fail
    refine (examples_any _).mono ?_
    rintro e W1 ⟨rfl, hb⟩
    have Pa := (((Box.new w k n s _).alloc _).alloc _).ext hb
    have Pb := ((Box.new1 w _ l m t _).alloc _).ext hb
    have Pc := (Box.new2 w _ _ i j u _).ext hb
    have E := ext_trans (ext_alloc (ext_alloc (ext_alloc (E) _) _) _) hb
    have nab : w.heap.size ≠ w.heap.size + 1 := by omega
    have nac : w.heap.size ≠ w.heap.size + 1 + 1 := by omega
    have nbc : w.heap.size + 1 ≠ w.heap.size + 1 + 1 := by omega
    have ga : w.heap.size ≤ w.heap.size := by omega
    have gb : w.heap.size ≤ w.heap.size + 1 := by omega
    have gc : w.heap.size ≤ w.heap.size + 1 + 1 := by omega
    clear hb
    obtain ⟨la, ca0, ca1, ca2, fa⟩ := id Pa
    obtain ⟨lb, cb0, cb1, cb2, fb⟩ := id Pb
    obtain ⟨lc, cc0, cc1, cc2, fc⟩ := id Pc
    go_wp2_with fail
    refine (compare_any ⟨k, n, s⟩ ⟨l, m, t⟩ _).mono ?_
    rintro e W2 ⟨rfl, hb⟩
    rw [HX.out]
    clear la ca0 ca1 ca2 fa lb cb0 cb1 cb2 fb lc cc0 cc1 cc2 fc
    have Pa := (Pa).ext hb
    have Pb := (Pb).ext hb
    have Pc := (Pc).ext hb
    have E := ext_trans (E) hb
    clear hb
    obtain ⟨la, ca0, ca1, ca2, fa⟩ := id Pa
    obtain ⟨lb, cb0, cb1, cb2, fb⟩ := id Pb
    obtain ⟨lc, cc0, cc1, cc2, fc⟩ := id Pc
    go_wp2_with fail
    refine (compare_any ⟨l, m, t⟩ ⟨i, j, u⟩ _).mono ?_
    rintro e W3 ⟨rfl, hb⟩
    rw [HY.out]
    clear la ca0 ca1 ca2 fa lb cb0 cb1 cb2 fb lc cc0 cc1 cc2 fc
    have Pa := (Pa).ext hb
    have Pb := (Pb).ext hb
    have Pc := (Pc).ext hb
    have E := ext_trans (E) hb
    clear hb
    obtain ⟨la, ca0, ca1, ca2, fa⟩ := id Pa
    obtain ⟨lb, cb0, cb1, cb2, fb⟩ := id Pb
    obtain ⟨lc, cc0, cc1, cc2, fc⟩ := id Pc
    go_wp2_with fail
    refine (compare_any ⟨k, n, s⟩ ⟨i, j, u⟩ _).mono ?_
    rintro e W4 ⟨rfl, hb⟩
    rw [HZ.out]
    clear la ca0 ca1 ca2 fa lb cb0 cb1 cb2 fb lc cc0 cc1 cc2 fc
    have Pa := (Pa).ext hb
    have Pb := (Pb).ext hb
    have Pc := (Pc).ext hb
    have E := ext_trans (E) hb
    clear hb
    obtain ⟨la, ca0, ca1, ca2, fa⟩ := id Pa
    obtain ⟨lb, cb0, cb1, cb2, fb⟩ := id Pb
    obtain ⟨lc, cc0, cc1, cc2, fc⟩ := id Pc
    go_wp2_with fail
    refine (compare_any ⟨l, m, t⟩ ⟨k, n, s⟩ _).mono ?_
    rintro e W5 ⟨rfl, hb⟩
    rw [HX'.out]
    clear la ca0 ca1 ca2 fa lb cb0 cb1 cb2 fb lc cc0 cc1 cc2 fc
    have Pa := (Pa).ext hb
    have Pb := (Pb).ext hb
    have Pc := (Pc).ext hb
    have E := ext_trans (E) hb
    clear hb
    obtain ⟨la, ca0, ca1, ca2, fa⟩ := id Pa
    obtain ⟨lb, cb0, cb1, cb2, fb⟩ := id Pb
    obtain ⟨lc, cc0, cc1, cc2, fc⟩ := id Pc
    go_wp2_with fail
    go_ret
    refine ⟨by first | rfl | (simp; done) | (simp; omega), ?_⟩
    (repeat (first | exact ext_refl _ | assumption | (refine ext_alloc ?_ _) | (refine ext_drewN ?_ _) | refine ext_drew ?_ | (refine ext_set (by first | (simp; done) | (simp; omega)) _ ?_) | (refine ext_trans ?_ (by assumption))))
  · have E := ext_refl w
    go_enter Try.func5, Try.ntmps5
    go_wp2_with fail
    refine (examples_any _).mono ?_
    rintro e W1 ⟨rfl, hb⟩
    have Pa := (((Box.new w k n s _).alloc _).alloc _).ext hb
    have Pb := ((Box.new1 w _ l m t _).alloc _).ext hb
    have Pc := (Box.new2 w _ _ i j u _).ext hb
    have E := ext_trans (ext_alloc (ext_alloc (ext_alloc (E) _) _) _) hb
    have nab : w.heap.size ≠ w.heap.size + 1 := by omega
    have nac : w.heap.size ≠ w.heap.size + 1 + 1 := by omega
    have nbc : w.heap.size + 1 ≠ w.heap.size + 1 + 1 := by omega
    have ga : w.heap.size ≤ w.heap.size := by omega
    have gb : w.heap.size ≤ w.heap.size + 1 := by omega
    have gc : w.heap.size ≤ w.heap.size + 1 + 1 := by omega
    clear hb
    obtain ⟨la, ca0, ca1, ca2, fa⟩ := id Pa
    obtain ⟨lb, cb0, cb1, cb2, fb⟩ := id Pb
    obtain ⟨lc, cc0, cc1, cc2, fc⟩ := id Pc
    go_wp2_with fail
    refine (compare_any ⟨k, n, s⟩ ⟨l, m, t⟩ _).mono ?_
    rintro e W2 ⟨rfl, hb⟩
    rw [HX.out]
    clear la ca0 ca1 ca2 fa lb cb0 cb1 cb2 fb lc cc0 cc1 cc2 fc
    have Pa := (Pa).ext hb
    have Pb := (Pb).ext hb
    have Pc := (Pc).ext hb
    have E := ext_trans (E) hb
    clear hb
    obtain ⟨la, ca0, ca1, ca2, fa⟩ := id Pa
    obtain ⟨lb, cb0, cb1, cb2, fb⟩ := id Pb
    obtain ⟨lc, cc0, cc1, cc2, fc⟩ := id Pc
    go_wp2_with fail
    refine (compare_any ⟨l, m, t⟩ ⟨i, j, u⟩ _).mono ?_
    rintro e W3 ⟨rfl, hb⟩
    rw [HY.out]
    clear la ca0 ca1 ca2 fa lb cb0 cb1 cb2 fb lc cc0 cc1 cc2 fc
    have Pa := (Pa).ext hb
    have Pb := (Pb).ext hb
    have Pc := (Pc).ext hb
    have E := ext_trans (E) hb
    clear hb
    obtain ⟨la, ca0, ca1, ca2, fa⟩ := id Pa
    obtain ⟨lb, cb0, cb1, cb2, fb⟩ := id Pb
    obtain ⟨lc, cc0, cc1, cc2, fc⟩ := id Pc
    go_wp2_with fail
    refine (compare_any ⟨k, n, s⟩ ⟨i, j, u⟩ _).mono ?_
    rintro e W4 ⟨rfl, hb⟩
    rw [HZ.out]
    clear la ca0 ca1 ca2 fa lb cb0 cb1 cb2 fb lc cc0 cc1 cc2 fc
    have Pa := (Pa).ext hb
    have Pb := (Pb).ext hb
    have Pc := (Pc).ext hb
    have E := ext_trans (E) hb
    clear hb
    obtain ⟨la, ca0, ca1, ca2, fa⟩ := id Pa
    obtain ⟨lb, cb0, cb1, cb2, fb⟩ := id Pb
    obtain ⟨lc, cc0, cc1, cc2, fc⟩ := id Pc
    go_wp2_with fail
    refine (compare_any ⟨l, m, t⟩ ⟨k, n, s⟩ _).mono ?_
    rintro e W5 ⟨rfl, hb⟩
    rw [HX'.out]
    clear la ca0 ca1 ca2 fa lb cb0 cb1 cb2 fb lc cc0 cc1 cc2 fc
    have Pa := (Pa).ext hb
    have Pb := (Pb).ext hb
    have Pc := (Pc).ext hb
    have E := ext_trans (E) hb
    clear hb
    obtain ⟨la, ca0, ca1, ca2, fa⟩ := id Pa
    obtain ⟨lb, cb0, cb1, cb2, fb⟩ := id Pb
    obtain ⟨lc, cc0, cc1, cc2, fc⟩ := id Pc
    go_wp2_with fail
    go_ret
    refine ⟨by first | rfl | (simp; done) | (simp; omega), ?_⟩
    (repeat (first | exact ext_refl _ | assumption | (refine ext_alloc ?_ _) | (refine ext_drewN ?_ _) | refine ext_drew ?_ | (refine ext_set (by first | (simp; done) | (simp; omega)) _ ?_) | (refine ext_trans ?_ (by assumption))))

set_option maxHeartbeats 4000000 in
set_option maxRecDepth 100000 in
theorem order_same_gt (k n i j : Int) (s u : ByteArray) (w : World) (Y Z : Int) (hX : Val.cmp ⟨k, n, s⟩ ⟨k, n, s⟩ = 0) (hY : Val.cmp ⟨k, n, s⟩ ⟨i, j, u⟩ = Y) (hZ : Val.cmp ⟨k, n, s⟩ ⟨i, j, u⟩ = Z) (h2 : 0 < Y) : Calls Try.prog 5 #[(Val.mk k n s).v, (Val.mk k n s).v, (Val.mk i j u).v] w fun e w' => e = .returned (.bool true) ∧ Below w.heap.size w w' := by
  have HX := Lib.hid hX
  have HX' := Lib.hid hX
  have HY := Lib.hid hY
  have HZ := Lib.hid hZ
  clear hX hY hZ
  have E := ext_refl w
  go_enter Try.func5, Try.ntmps5
  go_wp2_with fail
  refine (examples_any _).mono ?_
  rintro e W1 ⟨rfl, hb⟩
  have Pa := (((Box.new w k n s _).alloc _).alloc _).ext hb
  have Pb := ((Box.new1 w _ k n s _).alloc _).ext hb
  have Pc := (Box.new2 w _ _ i j u _).ext hb
  have E := ext_trans (ext_alloc (ext_alloc (ext_alloc (E) _) _) _) hb
  have nab : w.heap.size ≠ w.heap.size + 1 := by omega
  have nac : w.heap.size ≠ w.heap.size + 1 + 1 := by omega
  have nbc : w.heap.size + 1 ≠ w.heap.size + 1 + 1 := by omega
  have ga : w.heap.size ≤ w.heap.size := by omega
  have gb : w.heap.size ≤ w.heap.size + 1 := by omega
  have gc : w.heap.size ≤ w.heap.size + 1 + 1 := by omega
  clear hb
  obtain ⟨la, ca0, ca1, ca2, fa⟩ := id Pa
  obtain ⟨lb, cb0, cb1, cb2, fb⟩ := id Pb
  obtain ⟨lc, cc0, cc1, cc2, fc⟩ := id Pc
  go_wp2_with fail
  refine (compare_any ⟨k, n, s⟩ ⟨k, n, s⟩ _).mono ?_
  rintro e W2 ⟨rfl, hb⟩
  rw [HX.out]
  clear la ca0 ca1 ca2 fa lb cb0 cb1 cb2 fb lc cc0 cc1 cc2 fc
  have Pa := (Pa).ext hb
  have Pb := (Pb).ext hb
  have Pc := (Pc).ext hb
  have E := ext_trans (E) hb
  clear hb
  obtain ⟨la, ca0, ca1, ca2, fa⟩ := id Pa
  obtain ⟨lb, cb0, cb1, cb2, fb⟩ := id Pb
  obtain ⟨lc, cc0, cc1, cc2, fc⟩ := id Pc
  go_wp2_with fail
  refine (compare_any ⟨k, n, s⟩ ⟨i, j, u⟩ _).mono ?_
  rintro e W3 ⟨rfl, hb⟩
  rw [HY.out]
  clear la ca0 ca1 ca2 fa lb cb0 cb1 cb2 fb lc cc0 cc1 cc2 fc
  have Pa := (Pa).ext hb
  have Pb := (Pb).ext hb
  have Pc := (Pc).ext hb
  have E := ext_trans (E) hb
  clear hb
  obtain ⟨la, ca0, ca1, ca2, fa⟩ := id Pa
  obtain ⟨lb, cb0, cb1, cb2, fb⟩ := id Pb
  obtain ⟨lc, cc0, cc1, cc2, fc⟩ := id Pc
  go_wp2_with fail
  refine (compare_any ⟨k, n, s⟩ ⟨i, j, u⟩ _).mono ?_
  rintro e W4 ⟨rfl, hb⟩
  rw [HZ.out]
  clear la ca0 ca1 ca2 fa lb cb0 cb1 cb2 fb lc cc0 cc1 cc2 fc
  have Pa := (Pa).ext hb
  have Pb := (Pb).ext hb
  have Pc := (Pc).ext hb
  have E := ext_trans (E) hb
  clear hb
  obtain ⟨la, ca0, ca1, ca2, fa⟩ := id Pa
  obtain ⟨lb, cb0, cb1, cb2, fb⟩ := id Pb
  obtain ⟨lc, cc0, cc1, cc2, fc⟩ := id Pc
  go_wp2_with fail
  refine (compare_any ⟨k, n, s⟩ ⟨k, n, s⟩ _).mono ?_
  rintro e W5 ⟨rfl, hb⟩
  rw [HX'.out]
  clear la ca0 ca1 ca2 fa lb cb0 cb1 cb2 fb lc cc0 cc1 cc2 fc
  have Pa := (Pa).ext hb
  have Pb := (Pb).ext hb
  have Pc := (Pc).ext hb
  have E := ext_trans (E) hb
  clear hb
  obtain ⟨la, ca0, ca1, ca2, fa⟩ := id Pa
  obtain ⟨lb, cb0, cb1, cb2, fb⟩ := id Pb
  obtain ⟨lc, cc0, cc1, cc2, fc⟩ := id Pc
  go_wp2_with fail
  go_ret
  refine ⟨by first | rfl | (simp; done) | (simp; omega), ?_⟩
  (repeat (first | exact ext_refl _ | assumption | (refine ext_alloc ?_ _) | (refine ext_drewN ?_ _) | refine ext_drew ?_ | (refine ext_set (by first | (simp; done) | (simp; omega)) _ ?_) | (refine ext_trans ?_ (by assumption))))

set_option maxHeartbeats 4000000 in
set_option maxRecDepth 100000 in
theorem order_same_le (k n i j : Int) (s u : ByteArray) (w : World) (Y Z : Int) (hX : Val.cmp ⟨k, n, s⟩ ⟨k, n, s⟩ = 0) (hY : Val.cmp ⟨k, n, s⟩ ⟨i, j, u⟩ = Y) (hZ : Val.cmp ⟨k, n, s⟩ ⟨i, j, u⟩ = Z) (h2 : Y ≤ 0) (h3 : Z ≤ 0) : Calls Try.prog 5 #[(Val.mk k n s).v, (Val.mk k n s).v, (Val.mk i j u).v] w fun e w' => e = .returned (.bool true) ∧ Below w.heap.size w w' := by
  have HX := Lib.hid hX
  have HX' := Lib.hid hX
  have HY := Lib.hid hY
  have HZ := Lib.hid hZ
  clear hX hY hZ
  have E := ext_refl w
  go_enter Try.func5, Try.ntmps5
  go_wp2_with fail
  refine (examples_any _).mono ?_
  rintro e W1 ⟨rfl, hb⟩
  have Pa := (((Box.new w k n s _).alloc _).alloc _).ext hb
  have Pb := ((Box.new1 w _ k n s _).alloc _).ext hb
  have Pc := (Box.new2 w _ _ i j u _).ext hb
  have E := ext_trans (ext_alloc (ext_alloc (ext_alloc (E) _) _) _) hb
  have nab : w.heap.size ≠ w.heap.size + 1 := by omega
  have nac : w.heap.size ≠ w.heap.size + 1 + 1 := by omega
  have nbc : w.heap.size + 1 ≠ w.heap.size + 1 + 1 := by omega
  have ga : w.heap.size ≤ w.heap.size := by omega
  have gb : w.heap.size ≤ w.heap.size + 1 := by omega
  have gc : w.heap.size ≤ w.heap.size + 1 + 1 := by omega
  clear hb
  obtain ⟨la, ca0, ca1, ca2, fa⟩ := id Pa
  obtain ⟨lb, cb0, cb1, cb2, fb⟩ := id Pb
  obtain ⟨lc, cc0, cc1, cc2, fc⟩ := id Pc
  go_wp2_with fail
  refine (compare_any ⟨k, n, s⟩ ⟨k, n, s⟩ _).mono ?_
  rintro e W2 ⟨rfl, hb⟩
  rw [HX.out]
  clear la ca0 ca1 ca2 fa lb cb0 cb1 cb2 fb lc cc0 cc1 cc2 fc
  have Pa := (Pa).ext hb
  have Pb := (Pb).ext hb
  have Pc := (Pc).ext hb
  have E := ext_trans (E) hb
  clear hb
  obtain ⟨la, ca0, ca1, ca2, fa⟩ := id Pa
  obtain ⟨lb, cb0, cb1, cb2, fb⟩ := id Pb
  obtain ⟨lc, cc0, cc1, cc2, fc⟩ := id Pc
  go_wp2_with fail
  refine (compare_any ⟨k, n, s⟩ ⟨i, j, u⟩ _).mono ?_
  rintro e W3 ⟨rfl, hb⟩
  rw [HY.out]
  clear la ca0 ca1 ca2 fa lb cb0 cb1 cb2 fb lc cc0 cc1 cc2 fc
  have Pa := (Pa).ext hb
  have Pb := (Pb).ext hb
  have Pc := (Pc).ext hb
  have E := ext_trans (E) hb
  clear hb
  obtain ⟨la, ca0, ca1, ca2, fa⟩ := id Pa
  obtain ⟨lb, cb0, cb1, cb2, fb⟩ := id Pb
  obtain ⟨lc, cc0, cc1, cc2, fc⟩ := id Pc
  go_wp2_with fail
  refine (compare_any ⟨k, n, s⟩ ⟨i, j, u⟩ _).mono ?_
  rintro e W4 ⟨rfl, hb⟩
  rw [HZ.out]
  clear la ca0 ca1 ca2 fa lb cb0 cb1 cb2 fb lc cc0 cc1 cc2 fc
  have Pa := (Pa).ext hb
  have Pb := (Pb).ext hb
  have Pc := (Pc).ext hb
  have E := ext_trans (E) hb
  clear hb
  obtain ⟨la, ca0, ca1, ca2, fa⟩ := id Pa
  obtain ⟨lb, cb0, cb1, cb2, fb⟩ := id Pb
  obtain ⟨lc, cc0, cc1, cc2, fc⟩ := id Pc
  go_wp2_with fail
  refine (compare_any ⟨k, n, s⟩ ⟨k, n, s⟩ _).mono ?_
  rintro e W5 ⟨rfl, hb⟩
  rw [HX'.out]
  clear la ca0 ca1 ca2 fa lb cb0 cb1 cb2 fb lc cc0 cc1 cc2 fc
  have Pa := (Pa).ext hb
  have Pb := (Pb).ext hb
  have Pc := (Pc).ext hb
  have E := ext_trans (E) hb
  clear hb
  obtain ⟨la, ca0, ca1, ca2, fa⟩ := id Pa
  obtain ⟨lb, cb0, cb1, cb2, fb⟩ := id Pb
  obtain ⟨lc, cc0, cc1, cc2, fc⟩ := id Pc
  go_wp2_with fail
  go_ret
  refine ⟨by first | rfl | (simp; done) | (simp; omega), ?_⟩
  (repeat (first | exact ext_refl _ | assumption | (refine ext_alloc ?_ _) | (refine ext_drewN ?_ _) | refine ext_drew ?_ | (refine ext_set (by first | (simp; done) | (simp; omega)) _ ?_) | (refine ext_trans ?_ (by assumption))))

theorem val_parts (x y : Val) (h : ¬ x = y) : (x.k == y.k) = false ∨ (x.k == y.k) = true ∧ (x.n == y.n) = false ∨ (x.k == y.k) = true ∧ (x.n == y.n) = true ∧ (x.s.toList == y.s.toList) = false := by
  obtain ⟨k, n, s⟩ := x
  obtain ⟨l, m, t⟩ := y
  by_cases h1 : k = l
  · by_cases h2 : n = m
    · refine .inr (.inr ⟨by simpa using h1, by simpa using h2, ?_⟩)
      rw [beq_eq_false_iff_ne]
      intro h3
      apply h
      obtain ⟨s⟩ := s
      obtain ⟨t⟩ := t
      rw [ByteArray.toList_eq, ByteArray.toList_eq] at h3
      have h4 : s = t := Array.toList_inj.1 h3
      rw [h1, h2, h4]
    · exact .inr (.inl ⟨by simpa using h1, by simpa using h2⟩)
  · exact .inl (by simpa using h1)

theorem or3_zero {x y z : Int} (h : or3 x y z = 0) : x = 0 ∧ y = 0 ∧ z = 0 := by
  unfold or3 at h
  by_cases hx : x = 0
  · by_cases hy : y = 0
    · simp [hx, hy] at h
      exact ⟨hx, hy, h⟩
    · simp [hx, hy] at h
  · simp [hx] at h
theorem ordI_zero {a b : Int} (h : ordI a b = 0) : a = b := by
  unfold ordI at h
  split at h
  · omega
  · split at h <;> omega
theorem ordS_zero {a b : ByteArray} (h : ordS a b = 0) : a.toList = b.toList := by
  rcases ordS_cases a b with ⟨_, _, e, _⟩ | ⟨e, _⟩ | ⟨_, _, e, _⟩
  · omega
  · exact e
  · omega
theorem cmp_zero {x y : Val} (h : x.cmp y = 0) : x = y := by
  obtain ⟨h1, h2, h3⟩ := or3_zero h
  obtain ⟨k, n, s⟩ := x
  obtain ⟨l, m, t⟩ := y
  have e1 : k = l := ordI_zero h1
  have e2 : n = m := ordI_zero h2
  have e3 : s.toList = t.toList := ordS_zero h3
  obtain ⟨s⟩ := s
  obtain ⟨t⟩ := t
  rw [ByteArray.toList_eq, ByteArray.toList_eq] at e3
  have e4 : s = t := Array.toList_inj.1 e3
  rw [e1, e2, e4]

theorem order_walk (x y z : Val) (w : World) : Calls Try.prog 5 #[x.v, y.v, z.v] w fun e w' => e = .returned (.bool true) ∧ Below w.heap.size w w' := by
  have o := cmp_ord x y z
  obtain ⟨k, n, s⟩ := x
  obtain ⟨l, m, t⟩ := y
  obtain ⟨i, j, u⟩ := z
  by_cases h : (⟨k, n, s⟩ : Val) = ⟨l, m, t⟩
  · have h' := h
    simp only [Val.mk.injEq] at h'
    obtain ⟨rfl, rfl, rfl⟩ := h'
    by_cases hy : 0 < Val.cmp ⟨k, n, s⟩ ⟨i, j, u⟩
    · exact order_same_gt k n i j s u w _ _ (cmp_self _) rfl rfl hy
    · exact order_same_le k n i j s u w _ _ (cmp_self _) rfl rfl (by omega) (by omega)
  · have d := val_parts _ _ h
    have h0 : ¬ Val.cmp ⟨k, n, s⟩ ⟨l, m, t⟩ = 0 := fun e => h (cmp_zero e)
    have ha := o.anti
    rcases cmp_three ⟨k, n, s⟩ ⟨l, m, t⟩ with h1 | h1 | h1
    · by_cases hy : 0 < Val.cmp ⟨l, m, t⟩ ⟨i, j, u⟩
      · exact order_lt1 k n l m i j s t u w _ _ h1 (by omega) rfl rfl d hy
      · exact order_lt2 k n l m i j s t u w _ _ h1 (by omega) rfl rfl d (by omega) (o.lt1 (by omega) (by omega))
    · exact absurd h1 h0
    · exact order_gt k n l m i j s t u w _ _ h1 (by omega) rfl rfl d

set_option maxRecDepth 100000 in
theorem valueOrder_lifted (os : Os) (started : os.Started) (H : Type) (enc : TypeId × Value → H) :
    ReturnsInHanded {} Try.checked os 5 .any (Rows.valueOrderSpec.pre6 enc Try.prog Try.f5 Rows.valueOrderRow.domain false) (Rows.valueOrderSpec.post enc Try.prog Try.f5 false true false false) := by
  refine returnsInHanded_of_change (C := Try.checked) Try.own started (by kernel_rfl) Try.func5
    (ChangeSpec.witness6 (enc := enc) (C := Try.checked) false ⟨#[], #[.agg #[.int .i64 0, .int .i64 0, .string ⟨#[]⟩], .agg #[.int .i64 0, .int .i64 0, .string ⟨#[]⟩], .agg #[.int .i64 0, .int .i64 0, .string ⟨#[]⟩]], []⟩ 8 (by kernel_rfl) (by kernel_rfl) (by kernel_rfl) (by kernel_rfl)) ?_
  intro W base args ds gs before hval0 hW _ _
  have hval : ∀ (j : Nat) t v, Try.f5.params[j]? = some t → args[j]? = some v → Value.okWide Try.prog W .any base t v := hval0
  have hW' := hW
  obtain ⟨p, q, hA0, hV, rfl, _, _⟩ := hW
  have hA : DataW.TrodAll enc Try.prog W 0 (fun _ => true) true Try.f5.params.toList args.toList ds p := hA0
  rw [Try.params5] at hA hval
  obtain ⟨v0, v1, v2, d0, d1, d2, p0, p1, p2, rfl, rfl, rfl, h0, h1, h2⟩ := trodAll_three hA
  obtain ⟨x0, rfl, kx0, nx0, sx0⟩ := open_val (hval 0 23 v0 rfl rfl) h0
  obtain ⟨x1, rfl, kx1, nx1, sx1⟩ := open_val (hval 1 23 v1 rfl rfl) h1
  obtain ⟨x2, rfl, kx2, nx2, sx2⟩ := open_val (hval 2 23 v2 rfl rfl) h2
  clear hA0 hval0
  refine (order_walk x0 x1 x2 W).mono fun e W' ⟨he, hb⟩ => ⟨_, he, post_law rfl hW' rfl rfl ?_ hb⟩
  intro t ht
  rw [Try.params5] at ht
  simp only [List.mem_cons, List.not_mem_nil, or_false] at ht
  rcases ht with rfl | rfl | rfl <;> exact ⟨by kernel_rfl, of_decide_eq_true (by kernel_rfl)⟩

theorem valueOrder_holds : Rows.ValueOrderSaid :=
  OpenClaim.holds_of_wide 5 Try.f5 rfl rfl rfl rfl rfl rfl rfl ⟨rfl, rfl, rfl, rfl, rfl⟩ rfl rfl rfl rfl rfl (by kernel_rfl) Try.func5 (by kernel_rfl)
    (of_decide_eq_true (by kernel_rfl)) (by unfold Func.isWrapper; rw [if_neg (of_decide_eq_false (by kernel_rfl))]; exact ⟨rfl, rfl⟩)
    (fun os started H enc _ => valueOrder_lifted os started H enc)

#print axioms valueOrder_holds
end Go.Proofs.Ytklbomfcejgbmaa
