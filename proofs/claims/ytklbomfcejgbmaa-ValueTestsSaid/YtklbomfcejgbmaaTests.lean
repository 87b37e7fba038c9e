/- ValueTests: of two values of one kind just one of less, even and greater is true, and the other comparisons say what these say; with NULL nobody knows; else the comparison is refused: true for every input, without a condition. -/
import Derived.Test.YtklbomfcejgbmaaValO
import Derived.Test.YtklbomfcejgbmaaValE
import Derived.Test.YtklbomfcejgbmaaBox
import Derived.Test.YtklbomfcejgbmaaFrame
namespace Go.Proofs.Ytklbomfcejgbmaa
open Go.ChangeShapes Go.WideShapes Go.ChangeAt Go.RowKit Go.Joins

/-- May the two be compared? -/
def tb (x y : Val) : Bool := x.right && y.right && (x.k == 0 || y.k == 0 || x.k == y.k)
theorem testable_tb (op : Int) (x y : Val) (h : 9 ≤ op) (h' : op ≤ 14) : testable op x y = tb x y := by
  simp only [testable, tb, h, h', decide_true, Bool.true_and]

set_option maxHeartbeats 4000000 in
set_option maxRecDepth 100000 in
theorem tests_no (k n l m : Int) (s t : ByteArray) (w : World) (hb : tb ⟨k, n, s⟩ ⟨l, m, t⟩ = false) : Calls Try.prog 9 #[(Val.mk k n s).v, (Val.mk l m t).v] w fun e w' => e = .returned (.bool true) ∧ Below w.heap.size w w' := by
  have H11 := Lib.hid (show testS 11 ⟨k, n, s⟩ ⟨l, m, t⟩ = (nul, 1) from by simp only [testS, testable_tb 11 _ _ (by decide) (by decide), hb]; rfl)
  have H9 := Lib.hid (show testS 9 ⟨k, n, s⟩ ⟨l, m, t⟩ = (nul, 1) from by simp only [testS, testable_tb 9 _ _ (by decide) (by decide), hb]; rfl)
  have H13 := Lib.hid (show testS 13 ⟨k, n, s⟩ ⟨l, m, t⟩ = (nul, 1) from by simp only [testS, testable_tb 13 _ _ (by decide) (by decide), hb]; rfl)
  have H12 := Lib.hid (show testS 12 ⟨k, n, s⟩ ⟨l, m, t⟩ = (nul, 1) from by simp only [testS, testable_tb 12 _ _ (by decide) (by decide), hb]; rfl)
  have H14 := Lib.hid (show testS 14 ⟨k, n, s⟩ ⟨l, m, t⟩ = (nul, 1) from by simp only [testS, testable_tb 14 _ _ (by decide) (by decide), hb]; rfl)
  have H10 := Lib.hid (show testS 10 ⟨k, n, s⟩ ⟨l, m, t⟩ = (nul, 1) from by simp only [testS, testable_tb 10 _ _ (by decide) (by decide), hb]; rfl)
  clear hb
  have E := ext_refl w
  go_enter Try.func9, Try.ntmps9
  go_wp2_with fail
  refine (examples_any _).mono ?_
  rintro e W1 ⟨rfl, hb⟩
  have Pa := ((Box.new w k n s _).alloc _).ext hb
  have Pb := (Box.new1 w _ l m t _).ext hb
  have E := ext_trans (ext_alloc (ext_alloc (E) _) _) hb
  have nab : w.heap.size ≠ w.heap.size + 1 := by omega
  have ga : w.heap.size ≤ w.heap.size := by omega
  have gb : w.heap.size ≤ w.heap.size + 1 := by omega
  clear hb
  obtain ⟨la, ca0, ca1, ca2, fa⟩ := id Pa
  obtain ⟨lb, cb0, cb1, cb2, fb⟩ := id Pb
  go_wp2_with fail
  refine (test_any 11 ⟨k, n, s⟩ ⟨l, m, t⟩ _).mono ?_
  rintro e W2 ⟨rfl, hb⟩
  rw [H11.out]
  clear la ca0 ca1 ca2 fa lb cb0 cb1 cb2 fb
  have Pa := (Pa).ext hb
  have Pb := (Pb).ext hb
  have E := ext_trans (E) hb
  clear hb
  obtain ⟨la, ca0, ca1, ca2, fa⟩ := id Pa
  obtain ⟨lb, cb0, cb1, cb2, fb⟩ := id Pb
  have glt : w.heap.size ≤ W2.heap.size := E.size
  have nalt : w.heap.size ≠ W2.heap.size := Nat.ne_of_lt Pa.lt
  have nblt : w.heap.size + 1 ≠ W2.heap.size := Nat.ne_of_lt Pb.lt
  go_wp2_with fail
  refine (test_any 9 ⟨k, n, s⟩ ⟨l, m, t⟩ _).mono ?_
  rintro e W3 ⟨rfl, hb⟩
  rw [H9.out]
  clear la ca0 ca1 ca2 fa lb cb0 cb1 cb2 fb
  have Pa := (((Pa).alloc _)).ext hb
  have Pb := (((Pb).alloc _)).ext hb
  have Plt := (Box.new _ (0) (0) (⟨#[]⟩) _).ext hb
  have E := ext_trans (ext_alloc (E) _) hb
  clear hb
  obtain ⟨la, ca0, ca1, ca2, fa⟩ := id Pa
  obtain ⟨lb, cb0, cb1, cb2, fb⟩ := id Pb
  obtain ⟨llt, clt0, clt1, clt2, flt⟩ := id Plt
  have geq : w.heap.size ≤ W3.heap.size := E.size
  have naeq : w.heap.size ≠ W3.heap.size := Nat.ne_of_lt Pa.lt
  have nbeq : w.heap.size + 1 ≠ W3.heap.size := Nat.ne_of_lt Pb.lt
  have nlteq : W2.heap.size ≠ W3.heap.size := Nat.ne_of_lt Plt.lt
  go_wp2_with fail
  refine (test_any 13 ⟨k, n, s⟩ ⟨l, m, t⟩ _).mono ?_
  rintro e W4 ⟨rfl, hb⟩
  rw [H13.out]
  clear la ca0 ca1 ca2 fa lb cb0 cb1 cb2 fb llt clt0 clt1 clt2 flt
  have Pa := (((Pa).alloc _)).ext hb
  have Pb := (((Pb).alloc _)).ext hb
  have Plt := (((Plt).alloc _)).ext hb
  have Peq := (Box.new _ (0) (0) (⟨#[]⟩) _).ext hb
  have E := ext_trans (ext_alloc (E) _) hb
  clear hb
  obtain ⟨la, ca0, ca1, ca2, fa⟩ := id Pa
  obtain ⟨lb, cb0, cb1, cb2, fb⟩ := id Pb
  obtain ⟨llt, clt0, clt1, clt2, flt⟩ := id Plt
  obtain ⟨leq, ceq0, ceq1, ceq2, feq⟩ := id Peq
  have ggt : w.heap.size ≤ W4.heap.size := E.size
  have nagt : w.heap.size ≠ W4.heap.size := Nat.ne_of_lt Pa.lt
  have nbgt : w.heap.size + 1 ≠ W4.heap.size := Nat.ne_of_lt Pb.lt
  have nltgt : W2.heap.size ≠ W4.heap.size := Nat.ne_of_lt Plt.lt
  have neqgt : W3.heap.size ≠ W4.heap.size := Nat.ne_of_lt Peq.lt
  go_wp2_with fail
  refine (test_any 12 ⟨k, n, s⟩ ⟨l, m, t⟩ _).mono ?_
  rintro e W5 ⟨rfl, hb⟩
  rw [H12.out]
  clear la ca0 ca1 ca2 fa lb cb0 cb1 cb2 fb llt clt0 clt1 clt2 flt leq ceq0 ceq1 ceq2 feq
  have Pa := (((Pa).alloc _)).ext hb
  have Pb := (((Pb).alloc _)).ext hb
  have Plt := (((Plt).alloc _)).ext hb
  have Peq := (((Peq).alloc _)).ext hb
  have Pgt := (Box.new _ (0) (0) (⟨#[]⟩) _).ext hb
  have E := ext_trans (ext_alloc (E) _) hb
  clear hb
  obtain ⟨la, ca0, ca1, ca2, fa⟩ := id Pa
  obtain ⟨lb, cb0, cb1, cb2, fb⟩ := id Pb
  obtain ⟨llt, clt0, clt1, clt2, flt⟩ := id Plt
  obtain ⟨leq, ceq0, ceq1, ceq2, feq⟩ := id Peq
  obtain ⟨lgt, cgt0, cgt1, cgt2, fgt⟩ := id Pgt
  have gle : w.heap.size ≤ W5.heap.size := E.size
  have nale : w.heap.size ≠ W5.heap.size := Nat.ne_of_lt Pa.lt
  have nble : w.heap.size + 1 ≠ W5.heap.size := Nat.ne_of_lt Pb.lt
  have nltle : W2.heap.size ≠ W5.heap.size := Nat.ne_of_lt Plt.lt
  have neqle : W3.heap.size ≠ W5.heap.size := Nat.ne_of_lt Peq.lt
  have ngtle : W4.heap.size ≠ W5.heap.size := Nat.ne_of_lt Pgt.lt
  go_wp2_with fail
  refine (test_any 14 ⟨k, n, s⟩ ⟨l, m, t⟩ _).mono ?_
  rintro e W6 ⟨rfl, hb⟩
  rw [H14.out]
  clear la ca0 ca1 ca2 fa lb cb0 cb1 cb2 fb llt clt0 clt1 clt2 flt leq ceq0 ceq1 ceq2 feq lgt cgt0 cgt1 cgt2 fgt
  have Pa := (((Pa).alloc _)).ext hb
  have Pb := (((Pb).alloc _)).ext hb
  have Plt := (((Plt).alloc _)).ext hb
  have Peq := (((Peq).alloc _)).ext hb
  have Pgt := (((Pgt).alloc _)).ext hb
  have Ple := (Box.new _ (0) (0) (⟨#[]⟩) _).ext hb
  have E := ext_trans (ext_alloc (E) _) hb
  clear hb
  obtain ⟨la, ca0, ca1, ca2, fa⟩ := id Pa
  obtain ⟨lb, cb0, cb1, cb2, fb⟩ := id Pb
  obtain ⟨llt, clt0, clt1, clt2, flt⟩ := id Plt
  obtain ⟨leq, ceq0, ceq1, ceq2, feq⟩ := id Peq
  obtain ⟨lgt, cgt0, cgt1, cgt2, fgt⟩ := id Pgt
  obtain ⟨lle, cle0, cle1, cle2, fle⟩ := id Ple
  have gge : w.heap.size ≤ W6.heap.size := E.size
  have nage : w.heap.size ≠ W6.heap.size := Nat.ne_of_lt Pa.lt
  have nbge : w.heap.size + 1 ≠ W6.heap.size := Nat.ne_of_lt Pb.lt
  have nltge : W2.heap.size ≠ W6.heap.size := Nat.ne_of_lt Plt.lt
  have neqge : W3.heap.size ≠ W6.heap.size := Nat.ne_of_lt Peq.lt
  have ngtge : W4.heap.size ≠ W6.heap.size := Nat.ne_of_lt Pgt.lt
  have nlege : W5.heap.size ≠ W6.heap.size := Nat.ne_of_lt Ple.lt
  go_wp2_with fail
  refine (test_any 10 ⟨k, n, s⟩ ⟨l, m, t⟩ _).mono ?_
  rintro e W7 ⟨rfl, hb⟩
  rw [H10.out]
  clear la ca0 ca1 ca2 fa lb cb0 cb1 cb2 fb llt clt0 clt1 clt2 flt leq ceq0 ceq1 ceq2 feq lgt cgt0 cgt1 cgt2 fgt lle cle0 cle1 cle2 fle
  have Pa := (((Pa).alloc _)).ext hb
  have Pb := (((Pb).alloc _)).ext hb
  have Plt := (((Plt).alloc _)).ext hb
  have Peq := (((Peq).alloc _)).ext hb
  have Pgt := (((Pgt).alloc _)).ext hb
  have Ple := (((Ple).alloc _)).ext hb
  have Pge := (Box.new _ (0) (0) (⟨#[]⟩) _).ext hb
  have E := ext_trans (ext_alloc (E) _) hb
  clear hb
  obtain ⟨la, ca0, ca1, ca2, fa⟩ := id Pa
  obtain ⟨lb, cb0, cb1, cb2, fb⟩ := id Pb
  obtain ⟨llt, clt0, clt1, clt2, flt⟩ := id Plt
  obtain ⟨leq, ceq0, ceq1, ceq2, feq⟩ := id Peq
  obtain ⟨lgt, cgt0, cgt1, cgt2, fgt⟩ := id Pgt
  obtain ⟨lle, cle0, cle1, cle2, fle⟩ := id Ple
  obtain ⟨lge, cge0, cge1, cge2, fge⟩ := id Pge
  have gne : w.heap.size ≤ W7.heap.size := E.size
  have nane : w.heap.size ≠ W7.heap.size := Nat.ne_of_lt Pa.lt
  have nbne : w.heap.size + 1 ≠ W7.heap.size := Nat.ne_of_lt Pb.lt
  have nltne : W2.heap.size ≠ W7.heap.size := Nat.ne_of_lt Plt.lt
  have neqne : W3.heap.size ≠ W7.heap.size := Nat.ne_of_lt Peq.lt
  have ngtne : W4.heap.size ≠ W7.heap.size := Nat.ne_of_lt Pgt.lt
  have nlene : W5.heap.size ≠ W7.heap.size := Nat.ne_of_lt Ple.lt
  have ngene : W6.heap.size ≠ W7.heap.size := Nat.ne_of_lt Pge.lt
  go_wp2_with fail
  go_ret
  refine ⟨rfl, ?_⟩
  (repeat (first | exact ext_refl _ | assumption | (refine ext_alloc ?_ _) | (refine ext_drewN ?_ _) | refine ext_drew ?_ | (refine ext_set (by first | (simp; done) | (simp; omega)) _ ?_) | (refine ext_trans ?_ (by assumption))))

set_option maxHeartbeats 4000000 in
set_option maxRecDepth 100000 in
theorem tests_null1 (k n l m : Int) (s t : ByteArray) (w : World) (hb : tb ⟨k, n, s⟩ ⟨l, m, t⟩ = true) (h1 : (k == 0) = true) : Calls Try.prog 9 #[(Val.mk k n s).v, (Val.mk l m t).v] w fun e w' => e = .returned (.bool true) ∧ Below w.heap.size w w' := by
  have H11 := Lib.hid (show testS 11 ⟨k, n, s⟩ ⟨l, m, t⟩ = (nul, 0) from by simp only [testS, testable_tb 11 _ _ (by decide) (by decide), hb, h1]; rfl)
  have H9 := Lib.hid (show testS 9 ⟨k, n, s⟩ ⟨l, m, t⟩ = (nul, 0) from by simp only [testS, testable_tb 9 _ _ (by decide) (by decide), hb, h1]; rfl)
  have H13 := Lib.hid (show testS 13 ⟨k, n, s⟩ ⟨l, m, t⟩ = (nul, 0) from by simp only [testS, testable_tb 13 _ _ (by decide) (by decide), hb, h1]; rfl)
  have H12 := Lib.hid (show testS 12 ⟨k, n, s⟩ ⟨l, m, t⟩ = (nul, 0) from by simp only [testS, testable_tb 12 _ _ (by decide) (by decide), hb, h1]; rfl)
  have H14 := Lib.hid (show testS 14 ⟨k, n, s⟩ ⟨l, m, t⟩ = (nul, 0) from by simp only [testS, testable_tb 14 _ _ (by decide) (by decide), hb, h1]; rfl)
  have H10 := Lib.hid (show testS 10 ⟨k, n, s⟩ ⟨l, m, t⟩ = (nul, 0) from by simp only [testS, testable_tb 10 _ _ (by decide) (by decide), hb, h1]; rfl)
  clear hb
  have E := ext_refl w
  go_enter Try.func9, Try.ntmps9
  go_wp2_with fail
  refine (examples_any _).mono ?_
  rintro e W1 ⟨rfl, hb⟩
  have Pa := ((Box.new w k n s _).alloc _).ext hb
  have Pb := (Box.new1 w _ l m t _).ext hb
  have E := ext_trans (ext_alloc (ext_alloc (E) _) _) hb
  have nab : w.heap.size ≠ w.heap.size + 1 := by omega
  have ga : w.heap.size ≤ w.heap.size := by omega
  have gb : w.heap.size ≤ w.heap.size + 1 := by omega
  clear hb
  obtain ⟨la, ca0, ca1, ca2, fa⟩ := id Pa
  obtain ⟨lb, cb0, cb1, cb2, fb⟩ := id Pb
  go_wp2_with fail
  refine (test_any 11 ⟨k, n, s⟩ ⟨l, m, t⟩ _).mono ?_
  rintro e W2 ⟨rfl, hb⟩
  rw [H11.out]
  clear la ca0 ca1 ca2 fa lb cb0 cb1 cb2 fb
  have Pa := (Pa).ext hb
  have Pb := (Pb).ext hb
  have E := ext_trans (E) hb
  clear hb
  obtain ⟨la, ca0, ca1, ca2, fa⟩ := id Pa
  obtain ⟨lb, cb0, cb1, cb2, fb⟩ := id Pb
  have glt : w.heap.size ≤ W2.heap.size := E.size
  have nalt : w.heap.size ≠ W2.heap.size := Nat.ne_of_lt Pa.lt
  have nblt : w.heap.size + 1 ≠ W2.heap.size := Nat.ne_of_lt Pb.lt
  go_wp2_with fail
  refine (test_any 9 ⟨k, n, s⟩ ⟨l, m, t⟩ _).mono ?_
  rintro e W3 ⟨rfl, hb⟩
  rw [H9.out]
  clear la ca0 ca1 ca2 fa lb cb0 cb1 cb2 fb
  have Pa := (((Pa).alloc _)).ext hb
  have Pb := (((Pb).alloc _)).ext hb
  have Plt := (Box.new _ (0) (0) (⟨#[]⟩) _).ext hb
  have E := ext_trans (ext_alloc (E) _) hb
  clear hb
  obtain ⟨la, ca0, ca1, ca2, fa⟩ := id Pa
  obtain ⟨lb, cb0, cb1, cb2, fb⟩ := id Pb
  obtain ⟨llt, clt0, clt1, clt2, flt⟩ := id Plt
  have geq : w.heap.size ≤ W3.heap.size := E.size
  have naeq : w.heap.size ≠ W3.heap.size := Nat.ne_of_lt Pa.lt
  have nbeq : w.heap.size + 1 ≠ W3.heap.size := Nat.ne_of_lt Pb.lt
  have nlteq : W2.heap.size ≠ W3.heap.size := Nat.ne_of_lt Plt.lt
  go_wp2_with fail
  refine (test_any 13 ⟨k, n, s⟩ ⟨l, m, t⟩ _).mono ?_
  rintro e W4 ⟨rfl, hb⟩
  rw [H13.out]
  clear la ca0 ca1 ca2 fa lb cb0 cb1 cb2 fb llt clt0 clt1 clt2 flt
  have Pa := (((Pa).alloc _)).ext hb
  have Pb := (((Pb).alloc _)).ext hb
  have Plt := (((Plt).alloc _)).ext hb
  have Peq := (Box.new _ (0) (0) (⟨#[]⟩) _).ext hb
  have E := ext_trans (ext_alloc (E) _) hb
  clear hb
  obtain ⟨la, ca0, ca1, ca2, fa⟩ := id Pa
  obtain ⟨lb, cb0, cb1, cb2, fb⟩ := id Pb
  obtain ⟨llt, clt0, clt1, clt2, flt⟩ := id Plt
  obtain ⟨leq, ceq0, ceq1, ceq2, feq⟩ := id Peq
  have ggt : w.heap.size ≤ W4.heap.size := E.size
  have nagt : w.heap.size ≠ W4.heap.size := Nat.ne_of_lt Pa.lt
  have nbgt : w.heap.size + 1 ≠ W4.heap.size := Nat.ne_of_lt Pb.lt
  have nltgt : W2.heap.size ≠ W4.heap.size := Nat.ne_of_lt Plt.lt
  have neqgt : W3.heap.size ≠ W4.heap.size := Nat.ne_of_lt Peq.lt
  go_wp2_with fail
  refine (test_any 12 ⟨k, n, s⟩ ⟨l, m, t⟩ _).mono ?_
  rintro e W5 ⟨rfl, hb⟩
  rw [H12.out]
  clear la ca0 ca1 ca2 fa lb cb0 cb1 cb2 fb llt clt0 clt1 clt2 flt leq ceq0 ceq1 ceq2 feq
  have Pa := (((Pa).alloc _)).ext hb
  have Pb := (((Pb).alloc _)).ext hb
  have Plt := (((Plt).alloc _)).ext hb
  have Peq := (((Peq).alloc _)).ext hb
  have Pgt := (Box.new _ (0) (0) (⟨#[]⟩) _).ext hb
  have E := ext_trans (ext_alloc (E) _) hb
  clear hb
  obtain ⟨la, ca0, ca1, ca2, fa⟩ := id Pa
  obtain ⟨lb, cb0, cb1, cb2, fb⟩ := id Pb
  obtain ⟨llt, clt0, clt1, clt2, flt⟩ := id Plt
  obtain ⟨leq, ceq0, ceq1, ceq2, feq⟩ := id Peq
  obtain ⟨lgt, cgt0, cgt1, cgt2, fgt⟩ := id Pgt
  have gle : w.heap.size ≤ W5.heap.size := E.size
  have nale : w.heap.size ≠ W5.heap.size := Nat.ne_of_lt Pa.lt
  have nble : w.heap.size + 1 ≠ W5.heap.size := Nat.ne_of_lt Pb.lt
  have nltle : W2.heap.size ≠ W5.heap.size := Nat.ne_of_lt Plt.lt
  have neqle : W3.heap.size ≠ W5.heap.size := Nat.ne_of_lt Peq.lt
  have ngtle : W4.heap.size ≠ W5.heap.size := Nat.ne_of_lt Pgt.lt
  go_wp2_with fail
  refine (test_any 14 ⟨k, n, s⟩ ⟨l, m, t⟩ _).mono ?_
  rintro e W6 ⟨rfl, hb⟩
  rw [H14.out]
  clear la ca0 ca1 ca2 fa lb cb0 cb1 cb2 fb llt clt0 clt1 clt2 flt leq ceq0 ceq1 ceq2 feq lgt cgt0 cgt1 cgt2 fgt
  have Pa := (((Pa).alloc _)).ext hb
  have Pb := (((Pb).alloc _)).ext hb
  have Plt := (((Plt).alloc _)).ext hb
  have Peq := (((Peq).alloc _)).ext hb
  have Pgt := (((Pgt).alloc _)).ext hb
  have Ple := (Box.new _ (0) (0) (⟨#[]⟩) _).ext hb
  have E := ext_trans (ext_alloc (E) _) hb
  clear hb
  obtain ⟨la, ca0, ca1, ca2, fa⟩ := id Pa
  obtain ⟨lb, cb0, cb1, cb2, fb⟩ := id Pb
  obtain ⟨llt, clt0, clt1, clt2, flt⟩ := id Plt
  obtain ⟨leq, ceq0, ceq1, ceq2, feq⟩ := id Peq
  obtain ⟨lgt, cgt0, cgt1, cgt2, fgt⟩ := id Pgt
  obtain ⟨lle, cle0, cle1, cle2, fle⟩ := id Ple
  have gge : w.heap.size ≤ W6.heap.size := E.size
  have nage : w.heap.size ≠ W6.heap.size := Nat.ne_of_lt Pa.lt
  have nbge : w.heap.size + 1 ≠ W6.heap.size := Nat.ne_of_lt Pb.lt
  have nltge : W2.heap.size ≠ W6.heap.size := Nat.ne_of_lt Plt.lt
  have neqge : W3.heap.size ≠ W6.heap.size := Nat.ne_of_lt Peq.lt
  have ngtge : W4.heap.size ≠ W6.heap.size := Nat.ne_of_lt Pgt.lt
  have nlege : W5.heap.size ≠ W6.heap.size := Nat.ne_of_lt Ple.lt
  go_wp2_with fail
  refine (test_any 10 ⟨k, n, s⟩ ⟨l, m, t⟩ _).mono ?_
  rintro e W7 ⟨rfl, hb⟩
  rw [H10.out]
  clear la ca0 ca1 ca2 fa lb cb0 cb1 cb2 fb llt clt0 clt1 clt2 flt leq ceq0 ceq1 ceq2 feq lgt cgt0 cgt1 cgt2 fgt lle cle0 cle1 cle2 fle
  have Pa := (((Pa).alloc _)).ext hb
  have Pb := (((Pb).alloc _)).ext hb
  have Plt := (((Plt).alloc _)).ext hb
  have Peq := (((Peq).alloc _)).ext hb
  have Pgt := (((Pgt).alloc _)).ext hb
  have Ple := (((Ple).alloc _)).ext hb
  have Pge := (Box.new _ (0) (0) (⟨#[]⟩) _).ext hb
  have E := ext_trans (ext_alloc (E) _) hb
  clear hb
  obtain ⟨la, ca0, ca1, ca2, fa⟩ := id Pa
  obtain ⟨lb, cb0, cb1, cb2, fb⟩ := id Pb
  obtain ⟨llt, clt0, clt1, clt2, flt⟩ := id Plt
  obtain ⟨leq, ceq0, ceq1, ceq2, feq⟩ := id Peq
  obtain ⟨lgt, cgt0, cgt1, cgt2, fgt⟩ := id Pgt
  obtain ⟨lle, cle0, cle1, cle2, fle⟩ := id Ple
  obtain ⟨lge, cge0, cge1, cge2, fge⟩ := id Pge
  have gne : w.heap.size ≤ W7.heap.size := E.size
  have nane : w.heap.size ≠ W7.heap.size := Nat.ne_of_lt Pa.lt
  have nbne : w.heap.size + 1 ≠ W7.heap.size := Nat.ne_of_lt Pb.lt
  have nltne : W2.heap.size ≠ W7.heap.size := Nat.ne_of_lt Plt.lt
  have neqne : W3.heap.size ≠ W7.heap.size := Nat.ne_of_lt Peq.lt
  have ngtne : W4.heap.size ≠ W7.heap.size := Nat.ne_of_lt Pgt.lt
  have nlene : W5.heap.size ≠ W7.heap.size := Nat.ne_of_lt Ple.lt
  have ngene : W6.heap.size ≠ W7.heap.size := Nat.ne_of_lt Pge.lt
  go_wp2_with fail
  go_ret
  refine ⟨rfl, ?_⟩
  (repeat (first | exact ext_refl _ | assumption | (refine ext_alloc ?_ _) | (refine ext_drewN ?_ _) | refine ext_drew ?_ | (refine ext_set (by first | (simp; done) | (simp; omega)) _ ?_) | (refine ext_trans ?_ (by assumption))))

set_option maxHeartbeats 4000000 in
set_option maxRecDepth 100000 in
theorem tests_null2 (k n l m : Int) (s t : ByteArray) (w : World) (hb : tb ⟨k, n, s⟩ ⟨l, m, t⟩ = true) (h1 : (k == 0) = false) (h2 : (l == 0) = true) : Calls Try.prog 9 #[(Val.mk k n s).v, (Val.mk l m t).v] w fun e w' => e = .returned (.bool true) ∧ Below w.heap.size w w' := by
  have H11 := Lib.hid (show testS 11 ⟨k, n, s⟩ ⟨l, m, t⟩ = (nul, 0) from by simp only [testS, testable_tb 11 _ _ (by decide) (by decide), hb, h1, h2]; rfl)
  have H9 := Lib.hid (show testS 9 ⟨k, n, s⟩ ⟨l, m, t⟩ = (nul, 0) from by simp only [testS, testable_tb 9 _ _ (by decide) (by decide), hb, h1, h2]; rfl)
  have H13 := Lib.hid (show testS 13 ⟨k, n, s⟩ ⟨l, m, t⟩ = (nul, 0) from by simp only [testS, testable_tb 13 _ _ (by decide) (by decide), hb, h1, h2]; rfl)
  have H12 := Lib.hid (show testS 12 ⟨k, n, s⟩ ⟨l, m, t⟩ = (nul, 0) from by simp only [testS, testable_tb 12 _ _ (by decide) (by decide), hb, h1, h2]; rfl)
  have H14 := Lib.hid (show testS 14 ⟨k, n, s⟩ ⟨l, m, t⟩ = (nul, 0) from by simp only [testS, testable_tb 14 _ _ (by decide) (by decide), hb, h1, h2]; rfl)
  have H10 := Lib.hid (show testS 10 ⟨k, n, s⟩ ⟨l, m, t⟩ = (nul, 0) from by simp only [testS, testable_tb 10 _ _ (by decide) (by decide), hb, h1, h2]; rfl)
  clear hb
  have E := ext_refl w
  go_enter Try.func9, Try.ntmps9
  go_wp2_with fail
  refine (examples_any _).mono ?_
  rintro e W1 ⟨rfl, hb⟩
  have Pa := ((Box.new w k n s _).alloc _).ext hb
  have Pb := (Box.new1 w _ l m t _).ext hb
  have E := ext_trans (ext_alloc (ext_alloc (E) _) _) hb
  have nab : w.heap.size ≠ w.heap.size + 1 := by omega
  have ga : w.heap.size ≤ w.heap.size := by omega
  have gb : w.heap.size ≤ w.heap.size + 1 := by omega
  clear hb
  obtain ⟨la, ca0, ca1, ca2, fa⟩ := id Pa
  obtain ⟨lb, cb0, cb1, cb2, fb⟩ := id Pb
  go_wp2_with fail
  refine (test_any 11 ⟨k, n, s⟩ ⟨l, m, t⟩ _).mono ?_
  rintro e W2 ⟨rfl, hb⟩
  rw [H11.out]
  clear la ca0 ca1 ca2 fa lb cb0 cb1 cb2 fb
  have Pa := (Pa).ext hb
  have Pb := (Pb).ext hb
  have E := ext_trans (E) hb
  clear hb
  obtain ⟨la, ca0, ca1, ca2, fa⟩ := id Pa
  obtain ⟨lb, cb0, cb1, cb2, fb⟩ := id Pb
  have glt : w.heap.size ≤ W2.heap.size := E.size
  have nalt : w.heap.size ≠ W2.heap.size := Nat.ne_of_lt Pa.lt
  have nblt : w.heap.size + 1 ≠ W2.heap.size := Nat.ne_of_lt Pb.lt
  go_wp2_with fail
  refine (test_any 9 ⟨k, n, s⟩ ⟨l, m, t⟩ _).mono ?_
  rintro e W3 ⟨rfl, hb⟩
  rw [H9.out]
  clear la ca0 ca1 ca2 fa lb cb0 cb1 cb2 fb
  have Pa := (((Pa).alloc _)).ext hb
  have Pb := (((Pb).alloc _)).ext hb
  have Plt := (Box.new _ (0) (0) (⟨#[]⟩) _).ext hb
  have E := ext_trans (ext_alloc (E) _) hb
  clear hb
  obtain ⟨la, ca0, ca1, ca2, fa⟩ := id Pa
  obtain ⟨lb, cb0, cb1, cb2, fb⟩ := id Pb
  obtain ⟨llt, clt0, clt1, clt2, flt⟩ := id Plt
  have geq : w.heap.size ≤ W3.heap.size := E.size
  have naeq : w.heap.size ≠ W3.heap.size := Nat.ne_of_lt Pa.lt
  have nbeq : w.heap.size + 1 ≠ W3.heap.size := Nat.ne_of_lt Pb.lt
  have nlteq : W2.heap.size ≠ W3.heap.size := Nat.ne_of_lt Plt.lt
  go_wp2_with fail
  refine (test_any 13 ⟨k, n, s⟩ ⟨l, m, t⟩ _).mono ?_
  rintro e W4 ⟨rfl, hb⟩
  rw [H13.out]
  clear la ca0 ca1 ca2 fa lb cb0 cb1 cb2 fb llt clt0 clt1 clt2 flt
  have Pa := (((Pa).alloc _)).ext hb
  have Pb := (((Pb).alloc _)).ext hb
  have Plt := (((Plt).alloc _)).ext hb
  have Peq := (Box.new _ (0) (0) (⟨#[]⟩) _).ext hb
  have E := ext_trans (ext_alloc (E) _) hb
  clear hb
  obtain ⟨la, ca0, ca1, ca2, fa⟩ := id Pa
  obtain ⟨lb, cb0, cb1, cb2, fb⟩ := id Pb
  obtain ⟨llt, clt0, clt1, clt2, flt⟩ := id Plt
  obtain ⟨leq, ceq0, ceq1, ceq2, feq⟩ := id Peq
  have ggt : w.heap.size ≤ W4.heap.size := E.size
  have nagt : w.heap.size ≠ W4.heap.size := Nat.ne_of_lt Pa.lt
  have nbgt : w.heap.size + 1 ≠ W4.heap.size := Nat.ne_of_lt Pb.lt
  have nltgt : W2.heap.size ≠ W4.heap.size := Nat.ne_of_lt Plt.lt
  have neqgt : W3.heap.size ≠ W4.heap.size := Nat.ne_of_lt Peq.lt
  go_wp2_with fail
  refine (test_any 12 ⟨k, n, s⟩ ⟨l, m, t⟩ _).mono ?_
  rintro e W5 ⟨rfl, hb⟩
  rw [H12.out]
  clear la ca0 ca1 ca2 fa lb cb0 cb1 cb2 fb llt clt0 clt1 clt2 flt leq ceq0 ceq1 ceq2 feq
  have Pa := (((Pa).alloc _)).ext hb
  have Pb := (((Pb).alloc _)).ext hb
  have Plt := (((Plt).alloc _)).ext hb
  have Peq := (((Peq).alloc _)).ext hb
  have Pgt := (Box.new _ (0) (0) (⟨#[]⟩) _).ext hb
  have E := ext_trans (ext_alloc (E) _) hb
  clear hb
  obtain ⟨la, ca0, ca1, ca2, fa⟩ := id Pa
  obtain ⟨lb, cb0, cb1, cb2, fb⟩ := id Pb
  obtain ⟨llt, clt0, clt1, clt2, flt⟩ := id Plt
  obtain ⟨leq, ceq0, ceq1, ceq2, feq⟩ := id Peq
  obtain ⟨lgt, cgt0, cgt1, cgt2, fgt⟩ := id Pgt
  have gle : w.heap.size ≤ W5.heap.size := E.size
  have nale : w.heap.size ≠ W5.heap.size := Nat.ne_of_lt Pa.lt
  have nble : w.heap.size + 1 ≠ W5.heap.size := Nat.ne_of_lt Pb.lt
  have nltle : W2.heap.size ≠ W5.heap.size := Nat.ne_of_lt Plt.lt
  have neqle : W3.heap.size ≠ W5.heap.size := Nat.ne_of_lt Peq.lt
  have ngtle : W4.heap.size ≠ W5.heap.size := Nat.ne_of_lt Pgt.lt
  go_wp2_with fail
  refine (test_any 14 ⟨k, n, s⟩ ⟨l, m, t⟩ _).mono ?_
  rintro e W6 ⟨rfl, hb⟩
  rw [H14.out]
  clear la ca0 ca1 ca2 fa lb cb0 cb1 cb2 fb llt clt0 clt1 clt2 flt leq ceq0 ceq1 ceq2 feq lgt cgt0 cgt1 cgt2 fgt
  have Pa := (((Pa).alloc _)).ext hb
  have Pb := (((Pb).alloc _)).ext hb
  have Plt := (((Plt).alloc _)).ext hb
  have Peq := (((Peq).alloc _)).ext hb
  have Pgt := (((Pgt).alloc _)).ext hb
  have Ple := (Box.new _ (0) (0) (⟨#[]⟩) _).ext hb
  have E := ext_trans (ext_alloc (E) _) hb
  clear hb
  obtain ⟨la, ca0, ca1, ca2, fa⟩ := id Pa
  obtain ⟨lb, cb0, cb1, cb2, fb⟩ := id Pb
  obtain ⟨llt, clt0, clt1, clt2, flt⟩ := id Plt
  obtain ⟨leq, ceq0, ceq1, ceq2, feq⟩ := id Peq
  obtain ⟨lgt, cgt0, cgt1, cgt2, fgt⟩ := id Pgt
  obtain ⟨lle, cle0, cle1, cle2, fle⟩ := id Ple
  have gge : w.heap.size ≤ W6.heap.size := E.size
  have nage : w.heap.size ≠ W6.heap.size := Nat.ne_of_lt Pa.lt
  have nbge : w.heap.size + 1 ≠ W6.heap.size := Nat.ne_of_lt Pb.lt
  have nltge : W2.heap.size ≠ W6.heap.size := Nat.ne_of_lt Plt.lt
  have neqge : W3.heap.size ≠ W6.heap.size := Nat.ne_of_lt Peq.lt
  have ngtge : W4.heap.size ≠ W6.heap.size := Nat.ne_of_lt Pgt.lt
  have nlege : W5.heap.size ≠ W6.heap.size := Nat.ne_of_lt Ple.lt
  go_wp2_with fail
  refine (test_any 10 ⟨k, n, s⟩ ⟨l, m, t⟩ _).mono ?_
  rintro e W7 ⟨rfl, hb⟩
  rw [H10.out]
  clear la ca0 ca1 ca2 fa lb cb0 cb1 cb2 fb llt clt0 clt1 clt2 flt leq ceq0 ceq1 ceq2 feq lgt cgt0 cgt1 cgt2 fgt lle cle0 cle1 cle2 fle
  have Pa := (((Pa).alloc _)).ext hb
  have Pb := (((Pb).alloc _)).ext hb
  have Plt := (((Plt).alloc _)).ext hb
  have Peq := (((Peq).alloc _)).ext hb
  have Pgt := (((Pgt).alloc _)).ext hb
  have Ple := (((Ple).alloc _)).ext hb
  have Pge := (Box.new _ (0) (0) (⟨#[]⟩) _).ext hb
  have E := ext_trans (ext_alloc (E) _) hb
  clear hb
  obtain ⟨la, ca0, ca1, ca2, fa⟩ := id Pa
  obtain ⟨lb, cb0, cb1, cb2, fb⟩ := id Pb
  obtain ⟨llt, clt0, clt1, clt2, flt⟩ := id Plt
  obtain ⟨leq, ceq0, ceq1, ceq2, feq⟩ := id Peq
  obtain ⟨lgt, cgt0, cgt1, cgt2, fgt⟩ := id Pgt
  obtain ⟨lle, cle0, cle1, cle2, fle⟩ := id Ple
  obtain ⟨lge, cge0, cge1, cge2, fge⟩ := id Pge
  have gne : w.heap.size ≤ W7.heap.size := E.size
  have nane : w.heap.size ≠ W7.heap.size := Nat.ne_of_lt Pa.lt
  have nbne : w.heap.size + 1 ≠ W7.heap.size := Nat.ne_of_lt Pb.lt
  have nltne : W2.heap.size ≠ W7.heap.size := Nat.ne_of_lt Plt.lt
  have neqne : W3.heap.size ≠ W7.heap.size := Nat.ne_of_lt Peq.lt
  have ngtne : W4.heap.size ≠ W7.heap.size := Nat.ne_of_lt Pgt.lt
  have nlene : W5.heap.size ≠ W7.heap.size := Nat.ne_of_lt Ple.lt
  have ngene : W6.heap.size ≠ W7.heap.size := Nat.ne_of_lt Pge.lt
  go_wp2_with fail
  go_ret
  refine ⟨rfl, ?_⟩
  (repeat (first | exact ext_refl _ | assumption | (refine ext_alloc ?_ _) | (refine ext_drewN ?_ _) | refine ext_drew ?_ | (refine ext_set (by first | (simp; done) | (simp; omega)) _ ?_) | (refine ext_trans ?_ (by assumption))))

set_option maxHeartbeats 4000000 in
set_option maxRecDepth 100000 in
theorem tests_ahead (k n l m : Int) (s t : ByteArray) (w : World) (hb : tb ⟨k, n, s⟩ ⟨l, m, t⟩ = true) (h1 : (k == 0) = false) (h2 : (l == 0) = false) (hc : Val.cmp ⟨k, n, s⟩ ⟨l, m, t⟩ = -1) : Calls Try.prog 9 #[(Val.mk k n s).v, (Val.mk l m t).v] w fun e w' => e = .returned (.bool true) ∧ Below w.heap.size w w' := by
  have H11 := Lib.hid (show testS 11 ⟨k, n, s⟩ ⟨l, m, t⟩ = ((tru 1), 0) from by simp only [testS, testable_tb 11 _ _ (by decide) (by decide), hb, h1, h2, hc]; rfl)
  have H9 := Lib.hid (show testS 9 ⟨k, n, s⟩ ⟨l, m, t⟩ = ((tru 0), 0) from by simp only [testS, testable_tb 9 _ _ (by decide) (by decide), hb, h1, h2, hc]; rfl)
  have H13 := Lib.hid (show testS 13 ⟨k, n, s⟩ ⟨l, m, t⟩ = ((tru 0), 0) from by simp only [testS, testable_tb 13 _ _ (by decide) (by decide), hb, h1, h2, hc]; rfl)
  have H12 := Lib.hid (show testS 12 ⟨k, n, s⟩ ⟨l, m, t⟩ = ((tru 1), 0) from by simp only [testS, testable_tb 12 _ _ (by decide) (by decide), hb, h1, h2, hc]; rfl)
  have H14 := Lib.hid (show testS 14 ⟨k, n, s⟩ ⟨l, m, t⟩ = ((tru 0), 0) from by simp only [testS, testable_tb 14 _ _ (by decide) (by decide), hb, h1, h2, hc]; rfl)
  have H10 := Lib.hid (show testS 10 ⟨k, n, s⟩ ⟨l, m, t⟩ = ((tru 1), 0) from by simp only [testS, testable_tb 10 _ _ (by decide) (by decide), hb, h1, h2, hc]; rfl)
  clear hb hc
  have E := ext_refl w
  go_enter Try.func9, Try.ntmps9
  go_wp2_with fail
  refine (examples_any _).mono ?_
  rintro e W1 ⟨rfl, hb⟩
  have Pa := ((Box.new w k n s _).alloc _).ext hb
  have Pb := (Box.new1 w _ l m t _).ext hb
  have E := ext_trans (ext_alloc (ext_alloc (E) _) _) hb
  have nab : w.heap.size ≠ w.heap.size + 1 := by omega
  have ga : w.heap.size ≤ w.heap.size := by omega
  have gb : w.heap.size ≤ w.heap.size + 1 := by omega
  clear hb
  obtain ⟨la, ca0, ca1, ca2, fa⟩ := id Pa
  obtain ⟨lb, cb0, cb1, cb2, fb⟩ := id Pb
  go_wp2_with fail
  refine (test_any 11 ⟨k, n, s⟩ ⟨l, m, t⟩ _).mono ?_
  rintro e W2 ⟨rfl, hb⟩
  rw [H11.out]
  clear la ca0 ca1 ca2 fa lb cb0 cb1 cb2 fb
  have Pa := (Pa).ext hb
  have Pb := (Pb).ext hb
  have E := ext_trans (E) hb
  clear hb
  obtain ⟨la, ca0, ca1, ca2, fa⟩ := id Pa
  obtain ⟨lb, cb0, cb1, cb2, fb⟩ := id Pb
  have glt : w.heap.size ≤ W2.heap.size := E.size
  have nalt : w.heap.size ≠ W2.heap.size := Nat.ne_of_lt Pa.lt
  have nblt : w.heap.size + 1 ≠ W2.heap.size := Nat.ne_of_lt Pb.lt
  go_wp2_with fail
  refine (test_any 9 ⟨k, n, s⟩ ⟨l, m, t⟩ _).mono ?_
  rintro e W3 ⟨rfl, hb⟩
  rw [H9.out]
  clear la ca0 ca1 ca2 fa lb cb0 cb1 cb2 fb
  have Pa := (((Pa).alloc _)).ext hb
  have Pb := (((Pb).alloc _)).ext hb
  have Plt := (Box.new _ (2) (1) (⟨#[]⟩) _).ext hb
  have E := ext_trans (ext_alloc (E) _) hb
  clear hb
  obtain ⟨la, ca0, ca1, ca2, fa⟩ := id Pa
  obtain ⟨lb, cb0, cb1, cb2, fb⟩ := id Pb
  obtain ⟨llt, clt0, clt1, clt2, flt⟩ := id Plt
  have geq : w.heap.size ≤ W3.heap.size := E.size
  have naeq : w.heap.size ≠ W3.heap.size := Nat.ne_of_lt Pa.lt
  have nbeq : w.heap.size + 1 ≠ W3.heap.size := Nat.ne_of_lt Pb.lt
  have nlteq : W2.heap.size ≠ W3.heap.size := Nat.ne_of_lt Plt.lt
  go_wp2_with fail
  refine (test_any 13 ⟨k, n, s⟩ ⟨l, m, t⟩ _).mono ?_
  rintro e W4 ⟨rfl, hb⟩
  rw [H13.out]
  clear la ca0 ca1 ca2 fa lb cb0 cb1 cb2 fb llt clt0 clt1 clt2 flt
  have Pa := (((Pa).alloc _)).ext hb
  have Pb := (((Pb).alloc _)).ext hb
  have Plt := (((Plt).alloc _)).ext hb
  have Peq := (Box.new _ (2) (0) (⟨#[]⟩) _).ext hb
  have E := ext_trans (ext_alloc (E) _) hb
  clear hb
  obtain ⟨la, ca0, ca1, ca2, fa⟩ := id Pa
  obtain ⟨lb, cb0, cb1, cb2, fb⟩ := id Pb
  obtain ⟨llt, clt0, clt1, clt2, flt⟩ := id Plt
  obtain ⟨leq, ceq0, ceq1, ceq2, feq⟩ := id Peq
  have ggt : w.heap.size ≤ W4.heap.size := E.size
  have nagt : w.heap.size ≠ W4.heap.size := Nat.ne_of_lt Pa.lt
  have nbgt : w.heap.size + 1 ≠ W4.heap.size := Nat.ne_of_lt Pb.lt
  have nltgt : W2.heap.size ≠ W4.heap.size := Nat.ne_of_lt Plt.lt
  have neqgt : W3.heap.size ≠ W4.heap.size := Nat.ne_of_lt Peq.lt
  go_wp2_with fail
  refine (test_any 12 ⟨k, n, s⟩ ⟨l, m, t⟩ _).mono ?_
  rintro e W5 ⟨rfl, hb⟩
  rw [H12.out]
  clear la ca0 ca1 ca2 fa lb cb0 cb1 cb2 fb llt clt0 clt1 clt2 flt leq ceq0 ceq1 ceq2 feq
  have Pa := (((Pa).alloc _)).ext hb
  have Pb := (((Pb).alloc _)).ext hb
  have Plt := (((Plt).alloc _)).ext hb
  have Peq := (((Peq).alloc _)).ext hb
  have Pgt := (Box.new _ (2) (0) (⟨#[]⟩) _).ext hb
  have E := ext_trans (ext_alloc (E) _) hb
  clear hb
  obtain ⟨la, ca0, ca1, ca2, fa⟩ := id Pa
  obtain ⟨lb, cb0, cb1, cb2, fb⟩ := id Pb
  obtain ⟨llt, clt0, clt1, clt2, flt⟩ := id Plt
  obtain ⟨leq, ceq0, ceq1, ceq2, feq⟩ := id Peq
  obtain ⟨lgt, cgt0, cgt1, cgt2, fgt⟩ := id Pgt
  have gle : w.heap.size ≤ W5.heap.size := E.size
  have nale : w.heap.size ≠ W5.heap.size := Nat.ne_of_lt Pa.lt
  have nble : w.heap.size + 1 ≠ W5.heap.size := Nat.ne_of_lt Pb.lt
  have nltle : W2.heap.size ≠ W5.heap.size := Nat.ne_of_lt Plt.lt
  have neqle : W3.heap.size ≠ W5.heap.size := Nat.ne_of_lt Peq.lt
  have ngtle : W4.heap.size ≠ W5.heap.size := Nat.ne_of_lt Pgt.lt
  go_wp2_with fail
  refine (test_any 14 ⟨k, n, s⟩ ⟨l, m, t⟩ _).mono ?_
  rintro e W6 ⟨rfl, hb⟩
  rw [H14.out]
  clear la ca0 ca1 ca2 fa lb cb0 cb1 cb2 fb llt clt0 clt1 clt2 flt leq ceq0 ceq1 ceq2 feq lgt cgt0 cgt1 cgt2 fgt
  have Pa := (((Pa).alloc _)).ext hb
  have Pb := (((Pb).alloc _)).ext hb
  have Plt := (((Plt).alloc _)).ext hb
  have Peq := (((Peq).alloc _)).ext hb
  have Pgt := (((Pgt).alloc _)).ext hb
  have Ple := (Box.new _ (2) (1) (⟨#[]⟩) _).ext hb
  have E := ext_trans (ext_alloc (E) _) hb
  clear hb
  obtain ⟨la, ca0, ca1, ca2, fa⟩ := id Pa
  obtain ⟨lb, cb0, cb1, cb2, fb⟩ := id Pb
  obtain ⟨llt, clt0, clt1, clt2, flt⟩ := id Plt
  obtain ⟨leq, ceq0, ceq1, ceq2, feq⟩ := id Peq
  obtain ⟨lgt, cgt0, cgt1, cgt2, fgt⟩ := id Pgt
  obtain ⟨lle, cle0, cle1, cle2, fle⟩ := id Ple
  have gge : w.heap.size ≤ W6.heap.size := E.size
  have nage : w.heap.size ≠ W6.heap.size := Nat.ne_of_lt Pa.lt
  have nbge : w.heap.size + 1 ≠ W6.heap.size := Nat.ne_of_lt Pb.lt
  have nltge : W2.heap.size ≠ W6.heap.size := Nat.ne_of_lt Plt.lt
  have neqge : W3.heap.size ≠ W6.heap.size := Nat.ne_of_lt Peq.lt
  have ngtge : W4.heap.size ≠ W6.heap.size := Nat.ne_of_lt Pgt.lt
  have nlege : W5.heap.size ≠ W6.heap.size := Nat.ne_of_lt Ple.lt
  go_wp2_with fail
  refine (test_any 10 ⟨k, n, s⟩ ⟨l, m, t⟩ _).mono ?_
  rintro e W7 ⟨rfl, hb⟩
  rw [H10.out]
  clear la ca0 ca1 ca2 fa lb cb0 cb1 cb2 fb llt clt0 clt1 clt2 flt leq ceq0 ceq1 ceq2 feq lgt cgt0 cgt1 cgt2 fgt lle cle0 cle1 cle2 fle
  have Pa := (((Pa).alloc _)).ext hb
  have Pb := (((Pb).alloc _)).ext hb
  have Plt := (((Plt).alloc _)).ext hb
  have Peq := (((Peq).alloc _)).ext hb
  have Pgt := (((Pgt).alloc _)).ext hb
  have Ple := (((Ple).alloc _)).ext hb
  have Pge := (Box.new _ (2) (0) (⟨#[]⟩) _).ext hb
  have E := ext_trans (ext_alloc (E) _) hb
  clear hb
  obtain ⟨la, ca0, ca1, ca2, fa⟩ := id Pa
  obtain ⟨lb, cb0, cb1, cb2, fb⟩ := id Pb
  obtain ⟨llt, clt0, clt1, clt2, flt⟩ := id Plt
  obtain ⟨leq, ceq0, ceq1, ceq2, feq⟩ := id Peq
  obtain ⟨lgt, cgt0, cgt1, cgt2, fgt⟩ := id Pgt
  obtain ⟨lle, cle0, cle1, cle2, fle⟩ := id Ple
  obtain ⟨lge, cge0, cge1, cge2, fge⟩ := id Pge
  have gne : w.heap.size ≤ W7.heap.size := E.size
  have nane : w.heap.size ≠ W7.heap.size := Nat.ne_of_lt Pa.lt
  have nbne : w.heap.size + 1 ≠ W7.heap.size := Nat.ne_of_lt Pb.lt
  have nltne : W2.heap.size ≠ W7.heap.size := Nat.ne_of_lt Plt.lt
  have neqne : W3.heap.size ≠ W7.heap.size := Nat.ne_of_lt Peq.lt
  have ngtne : W4.heap.size ≠ W7.heap.size := Nat.ne_of_lt Pgt.lt
  have nlene : W5.heap.size ≠ W7.heap.size := Nat.ne_of_lt Ple.lt
  have ngene : W6.heap.size ≠ W7.heap.size := Nat.ne_of_lt Pge.lt
  go_wp2_with fail
  go_ret
  refine ⟨rfl, ?_⟩
  (repeat (first | exact ext_refl _ | assumption | (refine ext_alloc ?_ _) | (refine ext_drewN ?_ _) | refine ext_drew ?_ | (refine ext_set (by first | (simp; done) | (simp; omega)) _ ?_) | (refine ext_trans ?_ (by assumption))))

set_option maxHeartbeats 4000000 in
set_option maxRecDepth 100000 in
theorem tests_even (k n l m : Int) (s t : ByteArray) (w : World) (hb : tb ⟨k, n, s⟩ ⟨l, m, t⟩ = true) (h1 : (k == 0) = false) (h2 : (l == 0) = false) (hc : Val.cmp ⟨k, n, s⟩ ⟨l, m, t⟩ = 0) : Calls Try.prog 9 #[(Val.mk k n s).v, (Val.mk l m t).v] w fun e w' => e = .returned (.bool true) ∧ Below w.heap.size w w' := by
  have H11 := Lib.hid (show testS 11 ⟨k, n, s⟩ ⟨l, m, t⟩ = ((tru 0), 0) from by simp only [testS, testable_tb 11 _ _ (by decide) (by decide), hb, h1, h2, hc]; rfl)
  have H9 := Lib.hid (show testS 9 ⟨k, n, s⟩ ⟨l, m, t⟩ = ((tru 1), 0) from by simp only [testS, testable_tb 9 _ _ (by decide) (by decide), hb, h1, h2, hc]; rfl)
  have H13 := Lib.hid (show testS 13 ⟨k, n, s⟩ ⟨l, m, t⟩ = ((tru 0), 0) from by simp only [testS, testable_tb 13 _ _ (by decide) (by decide), hb, h1, h2, hc]; rfl)
  have H12 := Lib.hid (show testS 12 ⟨k, n, s⟩ ⟨l, m, t⟩ = ((tru 1), 0) from by simp only [testS, testable_tb 12 _ _ (by decide) (by decide), hb, h1, h2, hc]; rfl)
  have H14 := Lib.hid (show testS 14 ⟨k, n, s⟩ ⟨l, m, t⟩ = ((tru 1), 0) from by simp only [testS, testable_tb 14 _ _ (by decide) (by decide), hb, h1, h2, hc]; rfl)
  have H10 := Lib.hid (show testS 10 ⟨k, n, s⟩ ⟨l, m, t⟩ = ((tru 0), 0) from by simp only [testS, testable_tb 10 _ _ (by decide) (by decide), hb, h1, h2, hc]; rfl)
  clear hb hc
  have E := ext_refl w
  go_enter Try.func9, Try.ntmps9
  go_wp2_with fail
  refine (examples_any _).mono ?_
  rintro e W1 ⟨rfl, hb⟩
  have Pa := ((Box.new w k n s _).alloc _).ext hb
  have Pb := (Box.new1 w _ l m t _).ext hb
  have E := ext_trans (ext_alloc (ext_alloc (E) _) _) hb
  have nab : w.heap.size ≠ w.heap.size + 1 := by omega
  have ga : w.heap.size ≤ w.heap.size := by omega
  have gb : w.heap.size ≤ w.heap.size + 1 := by omega
  clear hb
  obtain ⟨la, ca0, ca1, ca2, fa⟩ := id Pa
  obtain ⟨lb, cb0, cb1, cb2, fb⟩ := id Pb
  go_wp2_with fail
  refine (test_any 11 ⟨k, n, s⟩ ⟨l, m, t⟩ _).mono ?_
  rintro e W2 ⟨rfl, hb⟩
  rw [H11.out]
  clear la ca0 ca1 ca2 fa lb cb0 cb1 cb2 fb
  have Pa := (Pa).ext hb
  have Pb := (Pb).ext hb
  have E := ext_trans (E) hb
  clear hb
  obtain ⟨la, ca0, ca1, ca2, fa⟩ := id Pa
  obtain ⟨lb, cb0, cb1, cb2, fb⟩ := id Pb
  have glt : w.heap.size ≤ W2.heap.size := E.size
  have nalt : w.heap.size ≠ W2.heap.size := Nat.ne_of_lt Pa.lt
  have nblt : w.heap.size + 1 ≠ W2.heap.size := Nat.ne_of_lt Pb.lt
  go_wp2_with fail
  refine (test_any 9 ⟨k, n, s⟩ ⟨l, m, t⟩ _).mono ?_
  rintro e W3 ⟨rfl, hb⟩
  rw [H9.out]
  clear la ca0 ca1 ca2 fa lb cb0 cb1 cb2 fb
  have Pa := (((Pa).alloc _)).ext hb
  have Pb := (((Pb).alloc _)).ext hb
  have Plt := (Box.new _ (2) (0) (⟨#[]⟩) _).ext hb
  have E := ext_trans (ext_alloc (E) _) hb
  clear hb
  obtain ⟨la, ca0, ca1, ca2, fa⟩ := id Pa
  obtain ⟨lb, cb0, cb1, cb2, fb⟩ := id Pb
  obtain ⟨llt, clt0, clt1, clt2, flt⟩ := id Plt
  have geq : w.heap.size ≤ W3.heap.size := E.size
  have naeq : w.heap.size ≠ W3.heap.size := Nat.ne_of_lt Pa.lt
  have nbeq : w.heap.size + 1 ≠ W3.heap.size := Nat.ne_of_lt Pb.lt
  have nlteq : W2.heap.size ≠ W3.heap.size := Nat.ne_of_lt Plt.lt
  go_wp2_with fail
  refine (test_any 13 ⟨k, n, s⟩ ⟨l, m, t⟩ _).mono ?_
  rintro e W4 ⟨rfl, hb⟩
  rw [H13.out]
  clear la ca0 ca1 ca2 fa lb cb0 cb1 cb2 fb llt clt0 clt1 clt2 flt
  have Pa := (((Pa).alloc _)).ext hb
  have Pb := (((Pb).alloc _)).ext hb
  have Plt := (((Plt).alloc _)).ext hb
  have Peq := (Box.new _ (2) (1) (⟨#[]⟩) _).ext hb
  have E := ext_trans (ext_alloc (E) _) hb
  clear hb
  obtain ⟨la, ca0, ca1, ca2, fa⟩ := id Pa
  obtain ⟨lb, cb0, cb1, cb2, fb⟩ := id Pb
  obtain ⟨llt, clt0, clt1, clt2, flt⟩ := id Plt
  obtain ⟨leq, ceq0, ceq1, ceq2, feq⟩ := id Peq
  have ggt : w.heap.size ≤ W4.heap.size := E.size
  have nagt : w.heap.size ≠ W4.heap.size := Nat.ne_of_lt Pa.lt
  have nbgt : w.heap.size + 1 ≠ W4.heap.size := Nat.ne_of_lt Pb.lt
  have nltgt : W2.heap.size ≠ W4.heap.size := Nat.ne_of_lt Plt.lt
  have neqgt : W3.heap.size ≠ W4.heap.size := Nat.ne_of_lt Peq.lt
  go_wp2_with fail
  refine (test_any 12 ⟨k, n, s⟩ ⟨l, m, t⟩ _).mono ?_
  rintro e W5 ⟨rfl, hb⟩
  rw [H12.out]
  clear la ca0 ca1 ca2 fa lb cb0 cb1 cb2 fb llt clt0 clt1 clt2 flt leq ceq0 ceq1 ceq2 feq
  have Pa := (((Pa).alloc _)).ext hb
  have Pb := (((Pb).alloc _)).ext hb
  have Plt := (((Plt).alloc _)).ext hb
  have Peq := (((Peq).alloc _)).ext hb
  have Pgt := (Box.new _ (2) (0) (⟨#[]⟩) _).ext hb
  have E := ext_trans (ext_alloc (E) _) hb
  clear hb
  obtain ⟨la, ca0, ca1, ca2, fa⟩ := id Pa
  obtain ⟨lb, cb0, cb1, cb2, fb⟩ := id Pb
  obtain ⟨llt, clt0, clt1, clt2, flt⟩ := id Plt
  obtain ⟨leq, ceq0, ceq1, ceq2, feq⟩ := id Peq
  obtain ⟨lgt, cgt0, cgt1, cgt2, fgt⟩ := id Pgt
  have gle : w.heap.size ≤ W5.heap.size := E.size
  have nale : w.heap.size ≠ W5.heap.size := Nat.ne_of_lt Pa.lt
  have nble : w.heap.size + 1 ≠ W5.heap.size := Nat.ne_of_lt Pb.lt
  have nltle : W2.heap.size ≠ W5.heap.size := Nat.ne_of_lt Plt.lt
  have neqle : W3.heap.size ≠ W5.heap.size := Nat.ne_of_lt Peq.lt
  have ngtle : W4.heap.size ≠ W5.heap.size := Nat.ne_of_lt Pgt.lt
  go_wp2_with fail
  refine (test_any 14 ⟨k, n, s⟩ ⟨l, m, t⟩ _).mono ?_
  rintro e W6 ⟨rfl, hb⟩
  rw [H14.out]
  clear la ca0 ca1 ca2 fa lb cb0 cb1 cb2 fb llt clt0 clt1 clt2 flt leq ceq0 ceq1 ceq2 feq lgt cgt0 cgt1 cgt2 fgt
  have Pa := (((Pa).alloc _)).ext hb
  have Pb := (((Pb).alloc _)).ext hb
  have Plt := (((Plt).alloc _)).ext hb
  have Peq := (((Peq).alloc _)).ext hb
  have Pgt := (((Pgt).alloc _)).ext hb
  have Ple := (Box.new _ (2) (1) (⟨#[]⟩) _).ext hb
  have E := ext_trans (ext_alloc (E) _) hb
  clear hb
  obtain ⟨la, ca0, ca1, ca2, fa⟩ := id Pa
  obtain ⟨lb, cb0, cb1, cb2, fb⟩ := id Pb
  obtain ⟨llt, clt0, clt1, clt2, flt⟩ := id Plt
  obtain ⟨leq, ceq0, ceq1, ceq2, feq⟩ := id Peq
  obtain ⟨lgt, cgt0, cgt1, cgt2, fgt⟩ := id Pgt
  obtain ⟨lle, cle0, cle1, cle2, fle⟩ := id Ple
  have gge : w.heap.size ≤ W6.heap.size := E.size
  have nage : w.heap.size ≠ W6.heap.size := Nat.ne_of_lt Pa.lt
  have nbge : w.heap.size + 1 ≠ W6.heap.size := Nat.ne_of_lt Pb.lt
  have nltge : W2.heap.size ≠ W6.heap.size := Nat.ne_of_lt Plt.lt
  have neqge : W3.heap.size ≠ W6.heap.size := Nat.ne_of_lt Peq.lt
  have ngtge : W4.heap.size ≠ W6.heap.size := Nat.ne_of_lt Pgt.lt
  have nlege : W5.heap.size ≠ W6.heap.size := Nat.ne_of_lt Ple.lt
  go_wp2_with fail
  refine (test_any 10 ⟨k, n, s⟩ ⟨l, m, t⟩ _).mono ?_
  rintro e W7 ⟨rfl, hb⟩
  rw [H10.out]
  clear la ca0 ca1 ca2 fa lb cb0 cb1 cb2 fb llt clt0 clt1 clt2 flt leq ceq0 ceq1 ceq2 feq lgt cgt0 cgt1 cgt2 fgt lle cle0 cle1 cle2 fle
  have Pa := (((Pa).alloc _)).ext hb
  have Pb := (((Pb).alloc _)).ext hb
  have Plt := (((Plt).alloc _)).ext hb
  have Peq := (((Peq).alloc _)).ext hb
  have Pgt := (((Pgt).alloc _)).ext hb
  have Ple := (((Ple).alloc _)).ext hb
  have Pge := (Box.new _ (2) (1) (⟨#[]⟩) _).ext hb
  have E := ext_trans (ext_alloc (E) _) hb
  clear hb
  obtain ⟨la, ca0, ca1, ca2, fa⟩ := id Pa
  obtain ⟨lb, cb0, cb1, cb2, fb⟩ := id Pb
  obtain ⟨llt, clt0, clt1, clt2, flt⟩ := id Plt
  obtain ⟨leq, ceq0, ceq1, ceq2, feq⟩ := id Peq
  obtain ⟨lgt, cgt0, cgt1, cgt2, fgt⟩ := id Pgt
  obtain ⟨lle, cle0, cle1, cle2, fle⟩ := id Ple
  obtain ⟨lge, cge0, cge1, cge2, fge⟩ := id Pge
  have gne : w.heap.size ≤ W7.heap.size := E.size
  have nane : w.heap.size ≠ W7.heap.size := Nat.ne_of_lt Pa.lt
  have nbne : w.heap.size + 1 ≠ W7.heap.size := Nat.ne_of_lt Pb.lt
  have nltne : W2.heap.size ≠ W7.heap.size := Nat.ne_of_lt Plt.lt
  have neqne : W3.heap.size ≠ W7.heap.size := Nat.ne_of_lt Peq.lt
  have ngtne : W4.heap.size ≠ W7.heap.size := Nat.ne_of_lt Pgt.lt
  have nlene : W5.heap.size ≠ W7.heap.size := Nat.ne_of_lt Ple.lt
  have ngene : W6.heap.size ≠ W7.heap.size := Nat.ne_of_lt Pge.lt
  go_wp2_with fail
  go_ret
  refine ⟨rfl, ?_⟩
  (repeat (first | exact ext_refl _ | assumption | (refine ext_alloc ?_ _) | (refine ext_drewN ?_ _) | refine ext_drew ?_ | (refine ext_set (by first | (simp; done) | (simp; omega)) _ ?_) | (refine ext_trans ?_ (by assumption))))

set_option maxHeartbeats 4000000 in
set_option maxRecDepth 100000 in
theorem tests_behind (k n l m : Int) (s t : ByteArray) (w : World) (hb : tb ⟨k, n, s⟩ ⟨l, m, t⟩ = true) (h1 : (k == 0) = false) (h2 : (l == 0) = false) (hc : Val.cmp ⟨k, n, s⟩ ⟨l, m, t⟩ = 1) : Calls Try.prog 9 #[(Val.mk k n s).v, (Val.mk l m t).v] w fun e w' => e = .returned (.bool true) ∧ Below w.heap.size w w' := by
  have H11 := Lib.hid (show testS 11 ⟨k, n, s⟩ ⟨l, m, t⟩ = ((tru 0), 0) from by simp only [testS, testable_tb 11 _ _ (by decide) (by decide), hb, h1, h2, hc]; rfl)
  have H9 := Lib.hid (show testS 9 ⟨k, n, s⟩ ⟨l, m, t⟩ = ((tru 0), 0) from by simp only [testS, testable_tb 9 _ _ (by decide) (by decide), hb, h1, h2, hc]; rfl)
  have H13 := Lib.hid (show testS 13 ⟨k, n, s⟩ ⟨l, m, t⟩ = ((tru 1), 0) from by simp only [testS, testable_tb 13 _ _ (by decide) (by decide), hb, h1, h2, hc]; rfl)
  have H12 := Lib.hid (show testS 12 ⟨k, n, s⟩ ⟨l, m, t⟩ = ((tru 0), 0) from by simp only [testS, testable_tb 12 _ _ (by decide) (by decide), hb, h1, h2, hc]; rfl)
  have H14 := Lib.hid (show testS 14 ⟨k, n, s⟩ ⟨l, m, t⟩ = ((tru 1), 0) from by simp only [testS, testable_tb 14 _ _ (by decide) (by decide), hb, h1, h2, hc]; rfl)
  have H10 := Lib.hid (show testS 10 ⟨k, n, s⟩ ⟨l, m, t⟩ = ((tru 1), 0) from by simp only [testS, testable_tb 10 _ _ (by decide) (by decide), hb, h1, h2, hc]; rfl)
  clear hb hc
  have E := ext_refl w
  go_enter Try.func9, Try.ntmps9
  go_wp2_with fail
  refine (examples_any _).mono ?_
  rintro e W1 ⟨rfl, hb⟩
  have Pa := ((Box.new w k n s _).alloc _).ext hb
  have Pb := (Box.new1 w _ l m t _).ext hb
  have E := ext_trans (ext_alloc (ext_alloc (E) _) _) hb
  have nab : w.heap.size ≠ w.heap.size + 1 := by omega
  have ga : w.heap.size ≤ w.heap.size := by omega
  have gb : w.heap.size ≤ w.heap.size + 1 := by omega
  clear hb
  obtain ⟨la, ca0, ca1, ca2, fa⟩ := id Pa
  obtain ⟨lb, cb0, cb1, cb2, fb⟩ := id Pb
  go_wp2_with fail
  refine (test_any 11 ⟨k, n, s⟩ ⟨l, m, t⟩ _).mono ?_
  rintro e W2 ⟨rfl, hb⟩
  rw [H11.out]
  clear la ca0 ca1 ca2 fa lb cb0 cb1 cb2 fb
  have Pa := (Pa).ext hb
  have Pb := (Pb).ext hb
  have E := ext_trans (E) hb
  clear hb
  obtain ⟨la, ca0, ca1, ca2, fa⟩ := id Pa
  obtain ⟨lb, cb0, cb1, cb2, fb⟩ := id Pb
  have glt : w.heap.size ≤ W2.heap.size := E.size
  have nalt : w.heap.size ≠ W2.heap.size := Nat.ne_of_lt Pa.lt
  have nblt : w.heap.size + 1 ≠ W2.heap.size := Nat.ne_of_lt Pb.lt
  go_wp2_with fail
  refine (test_any 9 ⟨k, n, s⟩ ⟨l, m, t⟩ _).mono ?_
  rintro e W3 ⟨rfl, hb⟩
  rw [H9.out]
  clear la ca0 ca1 ca2 fa lb cb0 cb1 cb2 fb
  have Pa := (((Pa).alloc _)).ext hb
  have Pb := (((Pb).alloc _)).ext hb
  have Plt := (Box.new _ (2) (0) (⟨#[]⟩) _).ext hb
  have E := ext_trans (ext_alloc (E) _) hb
  clear hb
  obtain ⟨la, ca0, ca1, ca2, fa⟩ := id Pa
  obtain ⟨lb, cb0, cb1, cb2, fb⟩ := id Pb
  obtain ⟨llt, clt0, clt1, clt2, flt⟩ := id Plt
  have geq : w.heap.size ≤ W3.heap.size := E.size
  have naeq : w.heap.size ≠ W3.heap.size := Nat.ne_of_lt Pa.lt
  have nbeq : w.heap.size + 1 ≠ W3.heap.size := Nat.ne_of_lt Pb.lt
  have nlteq : W2.heap.size ≠ W3.heap.size := Nat.ne_of_lt Plt.lt
  go_wp2_with fail
  refine (test_any 13 ⟨k, n, s⟩ ⟨l, m, t⟩ _).mono ?_
  rintro e W4 ⟨rfl, hb⟩
  rw [H13.out]
  clear la ca0 ca1 ca2 fa lb cb0 cb1 cb2 fb llt clt0 clt1 clt2 flt
  have Pa := (((Pa).alloc _)).ext hb
  have Pb := (((Pb).alloc _)).ext hb
  have Plt := (((Plt).alloc _)).ext hb
  have Peq := (Box.new _ (2) (0) (⟨#[]⟩) _).ext hb
  have E := ext_trans (ext_alloc (E) _) hb
  clear hb
  obtain ⟨la, ca0, ca1, ca2, fa⟩ := id Pa
  obtain ⟨lb, cb0, cb1, cb2, fb⟩ := id Pb
  obtain ⟨llt, clt0, clt1, clt2, flt⟩ := id Plt
  obtain ⟨leq, ceq0, ceq1, ceq2, feq⟩ := id Peq
  have ggt : w.heap.size ≤ W4.heap.size := E.size
  have nagt : w.heap.size ≠ W4.heap.size := Nat.ne_of_lt Pa.lt
  have nbgt : w.heap.size + 1 ≠ W4.heap.size := Nat.ne_of_lt Pb.lt
  have nltgt : W2.heap.size ≠ W4.heap.size := Nat.ne_of_lt Plt.lt
  have neqgt : W3.heap.size ≠ W4.heap.size := Nat.ne_of_lt Peq.lt
  go_wp2_with fail
  refine (test_any 12 ⟨k, n, s⟩ ⟨l, m, t⟩ _).mono ?_
  rintro e W5 ⟨rfl, hb⟩
  rw [H12.out]
  clear la ca0 ca1 ca2 fa lb cb0 cb1 cb2 fb llt clt0 clt1 clt2 flt leq ceq0 ceq1 ceq2 feq
  have Pa := (((Pa).alloc _)).ext hb
  have Pb := (((Pb).alloc _)).ext hb
  have Plt := (((Plt).alloc _)).ext hb
  have Peq := (((Peq).alloc _)).ext hb
  have Pgt := (Box.new _ (2) (1) (⟨#[]⟩) _).ext hb
  have E := ext_trans (ext_alloc (E) _) hb
  clear hb
  obtain ⟨la, ca0, ca1, ca2, fa⟩ := id Pa
  obtain ⟨lb, cb0, cb1, cb2, fb⟩ := id Pb
  obtain ⟨llt, clt0, clt1, clt2, flt⟩ := id Plt
  obtain ⟨leq, ceq0, ceq1, ceq2, feq⟩ := id Peq
  obtain ⟨lgt, cgt0, cgt1, cgt2, fgt⟩ := id Pgt
  have gle : w.heap.size ≤ W5.heap.size := E.size
  have nale : w.heap.size ≠ W5.heap.size := Nat.ne_of_lt Pa.lt
  have nble : w.heap.size + 1 ≠ W5.heap.size := Nat.ne_of_lt Pb.lt
  have nltle : W2.heap.size ≠ W5.heap.size := Nat.ne_of_lt Plt.lt
  have neqle : W3.heap.size ≠ W5.heap.size := Nat.ne_of_lt Peq.lt
  have ngtle : W4.heap.size ≠ W5.heap.size := Nat.ne_of_lt Pgt.lt
  go_wp2_with fail
  refine (test_any 14 ⟨k, n, s⟩ ⟨l, m, t⟩ _).mono ?_
  rintro e W6 ⟨rfl, hb⟩
  rw [H14.out]
  clear la ca0 ca1 ca2 fa lb cb0 cb1 cb2 fb llt clt0 clt1 clt2 flt leq ceq0 ceq1 ceq2 feq lgt cgt0 cgt1 cgt2 fgt
  have Pa := (((Pa).alloc _)).ext hb
  have Pb := (((Pb).alloc _)).ext hb
  have Plt := (((Plt).alloc _)).ext hb
  have Peq := (((Peq).alloc _)).ext hb
  have Pgt := (((Pgt).alloc _)).ext hb
  have Ple := (Box.new _ (2) (0) (⟨#[]⟩) _).ext hb
  have E := ext_trans (ext_alloc (E) _) hb
  clear hb
  obtain ⟨la, ca0, ca1, ca2, fa⟩ := id Pa
  obtain ⟨lb, cb0, cb1, cb2, fb⟩ := id Pb
  obtain ⟨llt, clt0, clt1, clt2, flt⟩ := id Plt
  obtain ⟨leq, ceq0, ceq1, ceq2, feq⟩ := id Peq
  obtain ⟨lgt, cgt0, cgt1, cgt2, fgt⟩ := id Pgt
  obtain ⟨lle, cle0, cle1, cle2, fle⟩ := id Ple
  have gge : w.heap.size ≤ W6.heap.size := E.size
  have nage : w.heap.size ≠ W6.heap.size := Nat.ne_of_lt Pa.lt
  have nbge : w.heap.size + 1 ≠ W6.heap.size := Nat.ne_of_lt Pb.lt
  have nltge : W2.heap.size ≠ W6.heap.size := Nat.ne_of_lt Plt.lt
  have neqge : W3.heap.size ≠ W6.heap.size := Nat.ne_of_lt Peq.lt
  have ngtge : W4.heap.size ≠ W6.heap.size := Nat.ne_of_lt Pgt.lt
  have nlege : W5.heap.size ≠ W6.heap.size := Nat.ne_of_lt Ple.lt
  go_wp2_with fail
  refine (test_any 10 ⟨k, n, s⟩ ⟨l, m, t⟩ _).mono ?_
  rintro e W7 ⟨rfl, hb⟩
  rw [H10.out]
  clear la ca0 ca1 ca2 fa lb cb0 cb1 cb2 fb llt clt0 clt1 clt2 flt leq ceq0 ceq1 ceq2 feq lgt cgt0 cgt1 cgt2 fgt lle cle0 cle1 cle2 fle
  have Pa := (((Pa).alloc _)).ext hb
  have Pb := (((Pb).alloc _)).ext hb
  have Plt := (((Plt).alloc _)).ext hb
  have Peq := (((Peq).alloc _)).ext hb
  have Pgt := (((Pgt).alloc _)).ext hb
  have Ple := (((Ple).alloc _)).ext hb
  have Pge := (Box.new _ (2) (1) (⟨#[]⟩) _).ext hb
  have E := ext_trans (ext_alloc (E) _) hb
  clear hb
  obtain ⟨la, ca0, ca1, ca2, fa⟩ := id Pa
  obtain ⟨lb, cb0, cb1, cb2, fb⟩ := id Pb
  obtain ⟨llt, clt0, clt1, clt2, flt⟩ := id Plt
  obtain ⟨leq, ceq0, ceq1, ceq2, feq⟩ := id Peq
  obtain ⟨lgt, cgt0, cgt1, cgt2, fgt⟩ := id Pgt
  obtain ⟨lle, cle0, cle1, cle2, fle⟩ := id Ple
  obtain ⟨lge, cge0, cge1, cge2, fge⟩ := id Pge
  have gne : w.heap.size ≤ W7.heap.size := E.size
  have nane : w.heap.size ≠ W7.heap.size := Nat.ne_of_lt Pa.lt
  have nbne : w.heap.size + 1 ≠ W7.heap.size := Nat.ne_of_lt Pb.lt
  have nltne : W2.heap.size ≠ W7.heap.size := Nat.ne_of_lt Plt.lt
  have neqne : W3.heap.size ≠ W7.heap.size := Nat.ne_of_lt Peq.lt
  have ngtne : W4.heap.size ≠ W7.heap.size := Nat.ne_of_lt Pgt.lt
  have nlene : W5.heap.size ≠ W7.heap.size := Nat.ne_of_lt Ple.lt
  have ngene : W6.heap.size ≠ W7.heap.size := Nat.ne_of_lt Pge.lt
  go_wp2_with fail
  go_ret
  refine ⟨rfl, ?_⟩
  (repeat (first | exact ext_refl _ | assumption | (refine ext_alloc ?_ _) | (refine ext_drewN ?_ _) | refine ext_drew ?_ | (refine ext_set (by first | (simp; done) | (simp; omega)) _ ?_) | (refine ext_trans ?_ (by assumption))))

theorem tests_walk (x y : Val) (w : World) : Calls Try.prog 9 #[x.v, y.v] w fun e w' => e = .returned (.bool true) ∧ Below w.heap.size w w' := by
  obtain ⟨k, n, s⟩ := x
  obtain ⟨l, m, t⟩ := y
  cases hb : tb ⟨k, n, s⟩ ⟨l, m, t⟩
  · exact tests_no k n l m s t w hb
  cases h1 : k == 0
  rotate_left
  · exact tests_null1 k n l m s t w hb h1
  cases h2 : l == 0
  rotate_left
  · exact tests_null2 k n l m s t w hb h1 h2
  rcases cmp_three ⟨k, n, s⟩ ⟨l, m, t⟩ with hc | hc | hc
  · exact tests_ahead k n l m s t w hb h1 h2 hc
  · exact tests_even k n l m s t w hb h1 h2 hc
  · exact tests_behind k n l m s t w hb h1 h2 hc

set_option maxRecDepth 100000 in
theorem valueTests_lifted (os : Os) (started : os.Started) (H : Type) (enc : TypeId × Value → H) :
    ReturnsInHanded {} Try.checked os 9 .any (Rows.valueTestsSpec.pre6 enc Try.prog Try.f9 Rows.valueTestsRow.domain false) (Rows.valueTestsSpec.post enc Try.prog Try.f9 false true false false) := by
  refine returnsInHanded_of_change (C := Try.checked) Try.own started (by kernel_rfl) Try.func9
    (ChangeSpec.witness6 (enc := enc) (C := Try.checked) false ⟨#[], #[.agg #[.int .i64 0, .int .i64 0, .string ⟨#[]⟩], .agg #[.int .i64 0, .int .i64 0, .string ⟨#[]⟩]], []⟩ 8 (by kernel_rfl) (by kernel_rfl) (by kernel_rfl) (by kernel_rfl)) ?_
  intro W base args ds gs before hval0 hW _ _
  have hval : ∀ (j : Nat) t v, Try.f9.params[j]? = some t → args[j]? = some v → Value.okWide Try.prog W .any base t v := hval0
  have hW' := hW
  obtain ⟨p, q, hA0, hV, rfl, _, _⟩ := hW
  have hA : DataW.TrodAll enc Try.prog W 0 (fun _ => true) true Try.f9.params.toList args.toList ds p := hA0
  rw [Try.params9] at hA hval
  obtain ⟨v0, v1, d0, d1, p0, p1, rfl, rfl, rfl, h0, h1⟩ := trodAll_two hA
  obtain ⟨x0, rfl, kx0, nx0, sx0⟩ := open_val (hval 0 23 v0 rfl rfl) h0
  obtain ⟨x1, rfl, kx1, nx1, sx1⟩ := open_val (hval 1 23 v1 rfl rfl) h1
  clear hA0 hval0
  refine (tests_walk x0 x1 W).mono fun e W' ⟨he, hb⟩ => ⟨_, he, post_law rfl hW' rfl rfl ?_ hb⟩
  intro t ht
  rw [Try.params9] at ht
  simp only [List.mem_cons, List.not_mem_nil, or_false] at ht
  rcases ht with rfl | rfl <;> exact ⟨by kernel_rfl, of_decide_eq_true (by kernel_rfl)⟩

theorem valueTests_holds : Rows.ValueTestsSaid :=
  OpenClaim.holds_of_wide 9 Try.f9 rfl rfl rfl rfl rfl rfl rfl ⟨rfl, rfl, rfl, rfl, rfl⟩ rfl rfl rfl rfl rfl (by kernel_rfl) Try.func9 (by kernel_rfl)
    (of_decide_eq_true (by kernel_rfl)) (by unfold Func.isWrapper; rw [if_neg (of_decide_eq_false (by kernel_rfl))]; exact ⟨rfl, rfl⟩)
    (fun os started H enc _ => valueTests_lifted os started H enc)

#print axioms valueTests_holds
end Go.Proofs.Ytklbomfcejgbmaa
