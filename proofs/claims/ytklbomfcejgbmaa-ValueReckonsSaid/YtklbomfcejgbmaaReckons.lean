/- ValueReckons: of any two values the code's sums, differences, products, quotients, and the number turned round, are the document's own answers: true for every input, without a condition. -/
import Derived.Test.YtklbomfcejgbmaaValC
import Derived.Test.YtklbomfcejgbmaaValS
import Derived.Test.YtklbomfcejgbmaaValE
import Derived.Test.YtklbomfcejgbmaaBox
import Derived.Test.YtklbomfcejgbmaaFrame
namespace Go.Proofs.Ytklbomfcejgbmaa
open Go.ChangeShapes Go.WideShapes Go.ChangeAt Go.RowKit Go.Joins

set_option maxHeartbeats 4000000 in
set_option maxRecDepth 100000 in
theorem reckons_walk (x y : Val) (w : World) (hx : inR x.n = true) (hy : inR y.n = true) : Calls Try.prog 3 #[x.v, y.v] w fun e w' => e = .returned (.bool true) ∧ Below w.heap.size w w' := by
  obtain ⟨k, n, s⟩ := x
  obtain ⟨l, m, t⟩ := y
  have E := ext_refl w
  go_enter Try.func3, Try.ntmps3
  go_wp2_with fail
  refine (examples_any _).mono ?_
  rintro e W1 ⟨rfl, hb⟩
  have Pa := ((Box.new w k n s _).alloc _).ext hb
  have Pb := (Box.new1 w _ l m t _).ext hb
  have E := ext_trans (ext_alloc (ext_alloc (E) _) _) hb
  have nab : w.heap.size ≠ w.heap.size + 1 := by omega
  have ga : w.heap.size ≤ w.heap.size := by omega
  have gb : w.heap.size ≤ w.heap.size + 1 := by omega
  clear hb
  obtain ⟨la, ca0, ca1, ca2, fa⟩ := id Pa
  obtain ⟨lb, cb0, cb1, cb2, fb⟩ := id Pb
  go_wp2_with fail
  refine (add_any ⟨k, n, s⟩ ⟨l, m, t⟩ _ hx hy).mono ?_
  rintro e W2 ⟨rfl, hb⟩
  clear la ca0 ca1 ca2 fa lb cb0 cb1 cb2 fb
  have Pa := (Pa).ext hb
  have Pb := (Pb).ext hb
  have E := ext_trans (E) hb
  clear hb
  obtain ⟨la, ca0, ca1, ca2, fa⟩ := id Pa
  obtain ⟨lb, cb0, cb1, cb2, fb⟩ := id Pb
  have gx : w.heap.size ≤ W2.heap.size := E.size
  have nax : w.heap.size ≠ W2.heap.size := Nat.ne_of_lt Pa.lt
  have nbx : w.heap.size + 1 ≠ W2.heap.size := Nat.ne_of_lt Pb.lt
  go_wp2_with fail
  refine (radd_any ⟨k, n, s⟩ ⟨l, m, t⟩ _ hx hy).mono ?_
  rintro e W3 ⟨rfl, hb⟩
  clear la ca0 ca1 ca2 fa lb cb0 cb1 cb2 fb
  have Pa := (((Pa).alloc _)).ext hb
  have Pb := (((Pb).alloc _)).ext hb
  have Px := (Box.new _ ((arith 4 ⟨k, n, s⟩ ⟨l, m, t⟩).1.k) ((arith 4 ⟨k, n, s⟩ ⟨l, m, t⟩).1.n) ((arith 4 ⟨k, n, s⟩ ⟨l, m, t⟩).1.s) _).ext hb
  have E := ext_trans (ext_alloc (E) _) hb
  clear hb
  obtain ⟨la, ca0, ca1, ca2, fa⟩ := id Pa
  obtain ⟨lb, cb0, cb1, cb2, fb⟩ := id Pb
  obtain ⟨lx, cx0, cx1, cx2, fx⟩ := id Px
  have gy : w.heap.size ≤ W3.heap.size := E.size
  have nay : w.heap.size ≠ W3.heap.size := Nat.ne_of_lt Pa.lt
  have nby : w.heap.size + 1 ≠ W3.heap.size := Nat.ne_of_lt Pb.lt
  have nxy : W2.heap.size ≠ W3.heap.size := Nat.ne_of_lt Px.lt
  go_wp2_with fail
  refine (sub_any ⟨k, n, s⟩ ⟨l, m, t⟩ _ hx hy).mono ?_
  rintro e W4 ⟨rfl, hb⟩
  clear la ca0 ca1 ca2 fa lb cb0 cb1 cb2 fb lx cx0 cx1 cx2 fx
  have Pa := (((Pa).alloc _)).ext hb
  have Pb := (((Pb).alloc _)).ext hb
  have Px := (((Px).alloc _)).ext hb
  have Py := (Box.new _ ((arith 4 ⟨k, n, s⟩ ⟨l, m, t⟩).1.k) ((arith 4 ⟨k, n, s⟩ ⟨l, m, t⟩).1.n) ((arith 4 ⟨k, n, s⟩ ⟨l, m, t⟩).1.s) _).ext hb
  have E := ext_trans (ext_alloc (E) _) hb
  clear hb
  obtain ⟨la, ca0, ca1, ca2, fa⟩ := id Pa
  obtain ⟨lb, cb0, cb1, cb2, fb⟩ := id Pb
  obtain ⟨lx, cx0, cx1, cx2, fx⟩ := id Px
  obtain ⟨ly, cy0, cy1, cy2, fy⟩ := id Py
  go_wp2_with fail
  refine (rsub_any ⟨k, n, s⟩ ⟨l, m, t⟩ _ hx hy).mono ?_
  rintro e W5 ⟨rfl, hb⟩
  clear la ca0 ca1 ca2 fa lb cb0 cb1 cb2 fb lx cx0 cx1 cx2 fx ly cy0 cy1 cy2 fy
  have Pa := (((Pa).far3 nax _ _ _)).ext hb
  have Pb := (((Pb).far3 nbx _ _ _)).ext hb
  have Px := (((Px).set ((arith 5 ⟨k, n, s⟩ ⟨l, m, t⟩).1.k) ((arith 5 ⟨k, n, s⟩ ⟨l, m, t⟩).1.n) ((arith 5 ⟨k, n, s⟩ ⟨l, m, t⟩).1.s))).ext hb
  have Py := (((Py).far3 (Ne.symm nxy) _ _ _)).ext hb
  have E := ext_trans (ext_set3 gx _ _ _ (E)) hb
  clear hb
  obtain ⟨la, ca0, ca1, ca2, fa⟩ := id Pa
  obtain ⟨lb, cb0, cb1, cb2, fb⟩ := id Pb
  obtain ⟨lx, cx0, cx1, cx2, fx⟩ := id Px
  obtain ⟨ly, cy0, cy1, cy2, fy⟩ := id Py
  go_wp2_with fail
  refine (mul_any ⟨k, n, s⟩ ⟨l, m, t⟩ _ hx hy).mono ?_
  rintro e W6 ⟨rfl, hb⟩
  clear la ca0 ca1 ca2 fa lb cb0 cb1 cb2 fb lx cx0 cx1 cx2 fx ly cy0 cy1 cy2 fy
  have Pa := (((Pa).far3 nay _ _ _)).ext hb
  have Pb := (((Pb).far3 nby _ _ _)).ext hb
  have Px := (((Px).far3 nxy _ _ _)).ext hb
  have Py := (((Py).set ((arith 5 ⟨k, n, s⟩ ⟨l, m, t⟩).1.k) ((arith 5 ⟨k, n, s⟩ ⟨l, m, t⟩).1.n) ((arith 5 ⟨k, n, s⟩ ⟨l, m, t⟩).1.s))).ext hb
  have E := ext_trans (ext_set3 gy _ _ _ (E)) hb
  clear hb
  obtain ⟨la, ca0, ca1, ca2, fa⟩ := id Pa
  obtain ⟨lb, cb0, cb1, cb2, fb⟩ := id Pb
  obtain ⟨lx, cx0, cx1, cx2, fx⟩ := id Px
  obtain ⟨ly, cy0, cy1, cy2, fy⟩ := id Py
  go_wp2_with fail
  refine (rmul_any ⟨k, n, s⟩ ⟨l, m, t⟩ _ hx hy).mono ?_
  rintro e W7 ⟨rfl, hb⟩
  clear la ca0 ca1 ca2 fa lb cb0 cb1 cb2 fb lx cx0 cx1 cx2 fx ly cy0 cy1 cy2 fy
  have Pa := (((Pa).far3 nax _ _ _)).ext hb
  have Pb := (((Pb).far3 nbx _ _ _)).ext hb
  have Px := (((Px).set ((arith 6 ⟨k, n, s⟩ ⟨l, m, t⟩).1.k) ((arith 6 ⟨k, n, s⟩ ⟨l, m, t⟩).1.n) ((arith 6 ⟨k, n, s⟩ ⟨l, m, t⟩).1.s))).ext hb
  have Py := (((Py).far3 (Ne.symm nxy) _ _ _)).ext hb
  have E := ext_trans (ext_set3 gx _ _ _ (E)) hb
  clear hb
  obtain ⟨la, ca0, ca1, ca2, fa⟩ := id Pa
  obtain ⟨lb, cb0, cb1, cb2, fb⟩ := id Pb
  obtain ⟨lx, cx0, cx1, cx2, fx⟩ := id Px
  obtain ⟨ly, cy0, cy1, cy2, fy⟩ := id Py
  go_wp2_with fail
  refine (div_any ⟨k, n, s⟩ ⟨l, m, t⟩ _ hx hy).mono ?_
  rintro e W8 ⟨rfl, hb⟩
  clear la ca0 ca1 ca2 fa lb cb0 cb1 cb2 fb lx cx0 cx1 cx2 fx ly cy0 cy1 cy2 fy
  have Pa := (((Pa).far3 nay _ _ _)).ext hb
  have Pb := (((Pb).far3 nby _ _ _)).ext hb
  have Px := (((Px).far3 nxy _ _ _)).ext hb
  have Py := (((Py).set ((arith 6 ⟨k, n, s⟩ ⟨l, m, t⟩).1.k) ((arith 6 ⟨k, n, s⟩ ⟨l, m, t⟩).1.n) ((arith 6 ⟨k, n, s⟩ ⟨l, m, t⟩).1.s))).ext hb
  have E := ext_trans (ext_set3 gy _ _ _ (E)) hb
  clear hb
  obtain ⟨la, ca0, ca1, ca2, fa⟩ := id Pa
  obtain ⟨lb, cb0, cb1, cb2, fb⟩ := id Pb
  obtain ⟨lx, cx0, cx1, cx2, fx⟩ := id Px
  obtain ⟨ly, cy0, cy1, cy2, fy⟩ := id Py
  go_wp2_with fail
  refine (rdiv_any ⟨k, n, s⟩ ⟨l, m, t⟩ _ hx).mono ?_
  rintro e W9 ⟨rfl, hb⟩
  clear la ca0 ca1 ca2 fa lb cb0 cb1 cb2 fb lx cx0 cx1 cx2 fx ly cy0 cy1 cy2 fy
  have Pa := (((Pa).far3 nax _ _ _)).ext hb
  have Pb := (((Pb).far3 nbx _ _ _)).ext hb
  have Px := (((Px).set ((arith 7 ⟨k, n, s⟩ ⟨l, m, t⟩).1.k) ((arith 7 ⟨k, n, s⟩ ⟨l, m, t⟩).1.n) ((arith 7 ⟨k, n, s⟩ ⟨l, m, t⟩).1.s))).ext hb
  have Py := (((Py).far3 (Ne.symm nxy) _ _ _)).ext hb
  have E := ext_trans (ext_set3 gx _ _ _ (E)) hb
  clear hb
  obtain ⟨la, ca0, ca1, ca2, fa⟩ := id Pa
  obtain ⟨lb, cb0, cb1, cb2, fb⟩ := id Pb
  obtain ⟨lx, cx0, cx1, cx2, fx⟩ := id Px
  obtain ⟨ly, cy0, cy1, cy2, fy⟩ := id Py
  go_wp2_with fail
  refine (neg_any ⟨k, n, s⟩ _ hx).mono ?_
  rintro e W10 ⟨rfl, hb⟩
  clear la ca0 ca1 ca2 fa lb cb0 cb1 cb2 fb lx cx0 cx1 cx2 fx ly cy0 cy1 cy2 fy
  have Pa := (((Pa).far3 nay _ _ _)).ext hb
  have Pb := (((Pb).far3 nby _ _ _)).ext hb
  have Px := (((Px).far3 nxy _ _ _)).ext hb
  have Py := (((Py).set ((arith 7 ⟨k, n, s⟩ ⟨l, m, t⟩).1.k) ((arith 7 ⟨k, n, s⟩ ⟨l, m, t⟩).1.n) ((arith 7 ⟨k, n, s⟩ ⟨l, m, t⟩).1.s))).ext hb
  have E := ext_trans (ext_set3 gy _ _ _ (E)) hb
  clear hb
  obtain ⟨la, ca0, ca1, ca2, fa⟩ := id Pa
  obtain ⟨lb, cb0, cb1, cb2, fb⟩ := id Pb
  obtain ⟨lx, cx0, cx1, cx2, fx⟩ := id Px
  obtain ⟨ly, cy0, cy1, cy2, fy⟩ := id Py
  go_wp2_with fail
  refine (rneg_any ⟨k, n, s⟩ _ hx).mono ?_
  rintro e W11 ⟨rfl, hb⟩
  clear la ca0 ca1 ca2 fa lb cb0 cb1 cb2 fb lx cx0 cx1 cx2 fx ly cy0 cy1 cy2 fy
  have Pa := (((Pa).far3 nax _ _ _)).ext hb
  have Pb := (((Pb).far3 nbx _ _ _)).ext hb
  have Px := (((Px).set ((arith 5 (num 0) ⟨k, n, s⟩).1.k) ((arith 5 (num 0) ⟨k, n, s⟩).1.n) ((arith 5 (num 0) ⟨k, n, s⟩).1.s))).ext hb
  have Py := (((Py).far3 (Ne.symm nxy) _ _ _)).ext hb
  have E := ext_trans (ext_set3 gx _ _ _ (E)) hb
  clear hb
  obtain ⟨la, ca0, ca1, ca2, fa⟩ := id Pa
  obtain ⟨lb, cb0, cb1, cb2, fb⟩ := id Pb
  obtain ⟨lx, cx0, cx1, cx2, fx⟩ := id Px
  obtain ⟨ly, cy0, cy1, cy2, fy⟩ := id Py
  go_wp2_with fail
  go_ret
  refine ⟨rfl, ?_⟩
  (repeat (first | exact ext_refl _ | assumption | (refine ext_alloc ?_ _) | (refine ext_drewN ?_ _) | refine ext_drew ?_ | (refine ext_set (by first | (simp; done) | (simp; omega)) _ ?_) | (refine ext_trans ?_ (by assumption))))

set_option maxRecDepth 100000 in
theorem valueReckons_lifted (os : Os) (started : os.Started) (H : Type) (enc : TypeId × Value → H) :
    ReturnsInHanded {} Try.checked os 3 .any (Rows.valueReckonsSpec.pre6 enc Try.prog Try.f3 Rows.valueReckonsRow.domain false) (Rows.valueReckonsSpec.post enc Try.prog Try.f3 false true false false) := by
  refine returnsInHanded_of_change (C := Try.checked) Try.own started (by kernel_rfl) Try.func3
    (ChangeSpec.witness6 (enc := enc) (C := Try.checked) false ⟨#[], #[.agg #[.int .i64 0, .int .i64 0, .string ⟨#[]⟩], .agg #[.int .i64 0, .int .i64 0, .string ⟨#[]⟩]], []⟩ 8 (by kernel_rfl) (by kernel_rfl) (by kernel_rfl) (by kernel_rfl)) ?_
  intro W base args ds gs before hval0 hW _ _
  have hval : ∀ (j : Nat) t v, Try.f3.params[j]? = some t → args[j]? = some v → Value.okWide Try.prog W .any base t v := hval0
  have hW' := hW
  obtain ⟨p, q, hA0, hV, rfl, _, _⟩ := hW
  have hA : DataW.TrodAll enc Try.prog W 0 (fun _ => true) true Try.f3.params.toList args.toList ds p := hA0
  rw [Try.params3] at hA hval
  obtain ⟨v0, v1, d0, d1, p0, p1, rfl, rfl, rfl, h0, h1⟩ := trodAll_two hA
  obtain ⟨x0, rfl, kx0, nx0, sx0⟩ := open_val (hval 0 23 v0 rfl rfl) h0
  obtain ⟨x1, rfl, kx1, nx1, sx1⟩ := open_val (hval 1 23 v1 rfl rfl) h1
  clear hA0 hval0
  refine (reckons_walk x0 x1 W nx0 nx1).mono fun e W' ⟨he, hb⟩ => ⟨_, he, post_law rfl hW' rfl rfl ?_ hb⟩
  intro t ht
  rw [Try.params3] at ht
  simp only [List.mem_cons, List.not_mem_nil, or_false] at ht
  rcases ht with rfl | rfl <;> exact ⟨by kernel_rfl, of_decide_eq_true (by kernel_rfl)⟩

theorem valueReckons_holds : Rows.ValueReckonsSaid :=
  OpenClaim.holds_of_wide 3 Try.f3 rfl rfl rfl rfl rfl rfl rfl ⟨rfl, rfl, rfl, rfl, rfl⟩ rfl rfl rfl rfl rfl (by kernel_rfl) Try.func3 (by kernel_rfl)
    (of_decide_eq_true (by kernel_rfl)) (by unfold Func.isWrapper; rw [if_neg (of_decide_eq_false (by kernel_rfl))]; exact ⟨rfl, rfl⟩)
    (fun os started H enc _ => valueReckons_lifted os started H enc)

#print axioms valueReckons_holds
end Go.Proofs.Ytklbomfcejgbmaa
