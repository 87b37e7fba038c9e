/- ValueTells: of any values the code's Test, And, Or, Not, Right and Compare are the document's own answers: true for every input, without a condition. -/
import Derived.Test.YtklbomfcejgbmaaValI
import Derived.Test.YtklbomfcejgbmaaValG
import Derived.Test.YtklbomfcejgbmaaValE
import Derived.Test.YtklbomfcejgbmaaBox
import Derived.Test.YtklbomfcejgbmaaFrame
namespace Go.Proofs.Ytklbomfcejgbmaa
open Go.ChangeShapes Go.WideShapes Go.ChangeAt Go.RowKit Go.Joins

set_option maxHeartbeats 4000000 in
set_option maxRecDepth 100000 in
theorem tells_walk (op : Int) (x y : Val) (w : World) : Calls Try.prog 4 #[.int .i64 op, x.v, y.v] w fun e w' => e = .returned (.bool true) ∧ Below w.heap.size w w' := by
  obtain ⟨k, n, s⟩ := x
  obtain ⟨l, m, t⟩ := y
  have E := ext_refl w
  go_enter Try.func4, Try.ntmps4
  go_wp2_with fail
  refine (examples_any _).mono ?_
  rintro e W1 ⟨rfl, hb⟩
  have Pa := ((Box.new w k n s _).alloc _).ext hb
  have Pb := (Box.new1 w _ l m t _).ext hb
  have E := ext_trans (ext_alloc (ext_alloc (E) _) _) hb
  have nab : w.heap.size ≠ w.heap.size + 1 := by omega
  have ga : w.heap.size ≤ w.heap.size := by omega
  have gb : w.heap.size ≤ w.heap.size + 1 := by omega
  clear hb
  obtain ⟨la, ca0, ca1, ca2, fa⟩ := id Pa
  obtain ⟨lb, cb0, cb1, cb2, fb⟩ := id Pb
  go_wp2_with fail
  refine (test_any op ⟨k, n, s⟩ ⟨l, m, t⟩ _).mono ?_
  rintro e W2 ⟨rfl, hb⟩
  clear la ca0 ca1 ca2 fa lb cb0 cb1 cb2 fb
  have Pa := (Pa).ext hb
  have Pb := (Pb).ext hb
  have E := ext_trans (E) hb
  clear hb
  obtain ⟨la, ca0, ca1, ca2, fa⟩ := id Pa
  obtain ⟨lb, cb0, cb1, cb2, fb⟩ := id Pb
  have gx : w.heap.size ≤ W2.heap.size := E.size
  have nax : w.heap.size ≠ W2.heap.size := Nat.ne_of_lt Pa.lt
  have nbx : w.heap.size + 1 ≠ W2.heap.size := Nat.ne_of_lt Pb.lt
  go_wp2_with fail
  refine (rtest_any op ⟨k, n, s⟩ ⟨l, m, t⟩ _).mono ?_
  rintro e W3 ⟨rfl, hb⟩
  clear la ca0 ca1 ca2 fa lb cb0 cb1 cb2 fb
  have Pa := (((Pa).alloc _)).ext hb
  have Pb := (((Pb).alloc _)).ext hb
  have Px := (Box.new _ ((testS op ⟨k, n, s⟩ ⟨l, m, t⟩).1.k) ((testS op ⟨k, n, s⟩ ⟨l, m, t⟩).1.n) ((testS op ⟨k, n, s⟩ ⟨l, m, t⟩).1.s) _).ext hb
  have E := ext_trans (ext_alloc (E) _) hb
  clear hb
  obtain ⟨la, ca0, ca1, ca2, fa⟩ := id Pa
  obtain ⟨lb, cb0, cb1, cb2, fb⟩ := id Pb
  obtain ⟨lx, cx0, cx1, cx2, fx⟩ := id Px
  have gy : w.heap.size ≤ W3.heap.size := E.size
  have nay : w.heap.size ≠ W3.heap.size := Nat.ne_of_lt Pa.lt
  have nby : w.heap.size + 1 ≠ W3.heap.size := Nat.ne_of_lt Pb.lt
  have nxy : W2.heap.size ≠ W3.heap.size := Nat.ne_of_lt Px.lt
  go_wp2_with fail
  refine (and_any ⟨k, n, s⟩ ⟨l, m, t⟩ _).mono ?_
  rintro e W4 ⟨rfl, hb⟩
  clear la ca0 ca1 ca2 fa lb cb0 cb1 cb2 fb lx cx0 cx1 cx2 fx
  have Pa := (((Pa).alloc _)).ext hb
  have Pb := (((Pb).alloc _)).ext hb
  have Px := (((Px).alloc _)).ext hb
  have Py := (Box.new _ ((testS op ⟨k, n, s⟩ ⟨l, m, t⟩).1.k) ((testS op ⟨k, n, s⟩ ⟨l, m, t⟩).1.n) ((testS op ⟨k, n, s⟩ ⟨l, m, t⟩).1.s) _).ext hb
  have E := ext_trans (ext_alloc (E) _) hb
  clear hb
  obtain ⟨la, ca0, ca1, ca2, fa⟩ := id Pa
  obtain ⟨lb, cb0, cb1, cb2, fb⟩ := id Pb
  obtain ⟨lx, cx0, cx1, cx2, fx⟩ := id Px
  obtain ⟨ly, cy0, cy1, cy2, fy⟩ := id Py
  go_wp2_with fail
  refine (rand_any ⟨k, n, s⟩ ⟨l, m, t⟩ _).mono ?_
  rintro e W5 ⟨rfl, hb⟩
  clear la ca0 ca1 ca2 fa lb cb0 cb1 cb2 fb lx cx0 cx1 cx2 fx ly cy0 cy1 cy2 fy
  have Pa := (((Pa).far3 nax _ _ _)).ext hb
  have Pb := (((Pb).far3 nbx _ _ _)).ext hb
  have Px := (((Px).set ((conn 0 1 ⟨k, n, s⟩ ⟨l, m, t⟩).1.k) ((conn 0 1 ⟨k, n, s⟩ ⟨l, m, t⟩).1.n) ((conn 0 1 ⟨k, n, s⟩ ⟨l, m, t⟩).1.s))).ext hb
  have Py := (((Py).far3 (Ne.symm nxy) _ _ _)).ext hb
  have E := ext_trans (ext_set3 gx _ _ _ (E)) hb
  clear hb
  obtain ⟨la, ca0, ca1, ca2, fa⟩ := id Pa
  obtain ⟨lb, cb0, cb1, cb2, fb⟩ := id Pb
  obtain ⟨lx, cx0, cx1, cx2, fx⟩ := id Px
  obtain ⟨ly, cy0, cy1, cy2, fy⟩ := id Py
  go_wp2_with fail
  refine (or_any ⟨k, n, s⟩ ⟨l, m, t⟩ _).mono ?_
  rintro e W6 ⟨rfl, hb⟩
  clear la ca0 ca1 ca2 fa lb cb0 cb1 cb2 fb lx cx0 cx1 cx2 fx ly cy0 cy1 cy2 fy
  have Pa := (((Pa).far3 nay _ _ _)).ext hb
  have Pb := (((Pb).far3 nby _ _ _)).ext hb
  have Px := (((Px).far3 nxy _ _ _)).ext hb
  have Py := (((Py).set ((conn 0 1 ⟨k, n, s⟩ ⟨l, m, t⟩).1.k) ((conn 0 1 ⟨k, n, s⟩ ⟨l, m, t⟩).1.n) ((conn 0 1 ⟨k, n, s⟩ ⟨l, m, t⟩).1.s))).ext hb
  have E := ext_trans (ext_set3 gy _ _ _ (E)) hb
  clear hb
  obtain ⟨la, ca0, ca1, ca2, fa⟩ := id Pa
  obtain ⟨lb, cb0, cb1, cb2, fb⟩ := id Pb
  obtain ⟨lx, cx0, cx1, cx2, fx⟩ := id Px
  obtain ⟨ly, cy0, cy1, cy2, fy⟩ := id Py
  go_wp2_with fail
  refine (ror_any ⟨k, n, s⟩ ⟨l, m, t⟩ _).mono ?_
  rintro e W7 ⟨rfl, hb⟩
  clear la ca0 ca1 ca2 fa lb cb0 cb1 cb2 fb lx cx0 cx1 cx2 fx ly cy0 cy1 cy2 fy
  have Pa := (((Pa).far3 nax _ _ _)).ext hb
  have Pb := (((Pb).far3 nbx _ _ _)).ext hb
  have Px := (((Px).set ((conn 1 0 ⟨k, n, s⟩ ⟨l, m, t⟩).1.k) ((conn 1 0 ⟨k, n, s⟩ ⟨l, m, t⟩).1.n) ((conn 1 0 ⟨k, n, s⟩ ⟨l, m, t⟩).1.s))).ext hb
  have Py := (((Py).far3 (Ne.symm nxy) _ _ _)).ext hb
  have E := ext_trans (ext_set3 gx _ _ _ (E)) hb
  clear hb
  obtain ⟨la, ca0, ca1, ca2, fa⟩ := id Pa
  obtain ⟨lb, cb0, cb1, cb2, fb⟩ := id Pb
  obtain ⟨lx, cx0, cx1, cx2, fx⟩ := id Px
  obtain ⟨ly, cy0, cy1, cy2, fy⟩ := id Py
  go_wp2_with fail
  refine (not_any ⟨k, n, s⟩ _).mono ?_
  rintro e W8 ⟨rfl, hb⟩
  clear la ca0 ca1 ca2 fa lb cb0 cb1 cb2 fb lx cx0 cx1 cx2 fx ly cy0 cy1 cy2 fy
  have Pa := (((Pa).far3 nay _ _ _)).ext hb
  have Pb := (((Pb).far3 nby _ _ _)).ext hb
  have Px := (((Px).far3 nxy _ _ _)).ext hb
  have Py := (((Py).set ((conn 1 0 ⟨k, n, s⟩ ⟨l, m, t⟩).1.k) ((conn 1 0 ⟨k, n, s⟩ ⟨l, m, t⟩).1.n) ((conn 1 0 ⟨k, n, s⟩ ⟨l, m, t⟩).1.s))).ext hb
  have E := ext_trans (ext_set3 gy _ _ _ (E)) hb
  clear hb
  obtain ⟨la, ca0, ca1, ca2, fa⟩ := id Pa
  obtain ⟨lb, cb0, cb1, cb2, fb⟩ := id Pb
  obtain ⟨lx, cx0, cx1, cx2, fx⟩ := id Px
  obtain ⟨ly, cy0, cy1, cy2, fy⟩ := id Py
  go_wp2_with fail
  refine (rnot_any ⟨k, n, s⟩ _).mono ?_
  rintro e W9 ⟨rfl, hb⟩
  clear la ca0 ca1 ca2 fa lb cb0 cb1 cb2 fb lx cx0 cx1 cx2 fx ly cy0 cy1 cy2 fy
  have Pa := (((Pa).far3 nax _ _ _)).ext hb
  have Pb := (((Pb).far3 nbx _ _ _)).ext hb
  have Px := (((Px).set ((notS ⟨k, n, s⟩).1.k) ((notS ⟨k, n, s⟩).1.n) ((notS ⟨k, n, s⟩).1.s))).ext hb
  have Py := (((Py).far3 (Ne.symm nxy) _ _ _)).ext hb
  have E := ext_trans (ext_set3 gx _ _ _ (E)) hb
  clear hb
  obtain ⟨la, ca0, ca1, ca2, fa⟩ := id Pa
  obtain ⟨lb, cb0, cb1, cb2, fb⟩ := id Pb
  obtain ⟨lx, cx0, cx1, cx2, fx⟩ := id Px
  obtain ⟨ly, cy0, cy1, cy2, fy⟩ := id Py
  go_wp2_with fail
  clear la ca0 ca1 ca2 fa lb cb0 cb1 cb2 fb lx cx0 cx1 cx2 fx ly cy0 cy1 cy2 fy
  have Pa := Pa.far3 nay (.int .i64 ((notS ⟨k, n, s⟩).1.k)) (.int .i64 ((notS ⟨k, n, s⟩).1.n)) (.string ((notS ⟨k, n, s⟩).1.s))
  have Pb := Pb.far3 nby (.int .i64 ((notS ⟨k, n, s⟩).1.k)) (.int .i64 ((notS ⟨k, n, s⟩).1.n)) (.string ((notS ⟨k, n, s⟩).1.s))
  have Px := Px.far3 nxy (.int .i64 ((notS ⟨k, n, s⟩).1.k)) (.int .i64 ((notS ⟨k, n, s⟩).1.n)) (.string ((notS ⟨k, n, s⟩).1.s))
  have Py := Py.set ((notS ⟨k, n, s⟩).1.k) ((notS ⟨k, n, s⟩).1.n) ((notS ⟨k, n, s⟩).1.s)
  have E := ext_set3 gy (.int .i64 ((notS ⟨k, n, s⟩).1.k)) (.int .i64 ((notS ⟨k, n, s⟩).1.n)) (.string ((notS ⟨k, n, s⟩).1.s)) E
  generalize (((W9.setCell ⟨W3.heap.size, 0, none⟩ (.int .i64 ((notS ⟨k, n, s⟩).1.k))).setCell ⟨W3.heap.size, 1, none⟩ (.int .i64 ((notS ⟨k, n, s⟩).1.n))).setCell ⟨W3.heap.size, 2, none⟩ (.string ((notS ⟨k, n, s⟩).1.s))) = G at *
  obtain ⟨la, ca0, ca1, ca2, fa⟩ := id Pa
  obtain ⟨lb, cb0, cb1, cb2, fb⟩ := id Pb
  obtain ⟨lx, cx0, cx1, cx2, fx⟩ := id Px
  obtain ⟨ly, cy0, cy1, cy2, fy⟩ := id Py
  go_region_held3 (fun w' => w.heap.size < w'.heap.size ∧ w'.cell? ⟨w.heap.size, 0, none⟩ = some (.int .i64 (k)) ∧ w'.cell? ⟨w.heap.size, 1, none⟩ = some (.int .i64 (n)) ∧ w'.cell? ⟨w.heap.size, 2, none⟩ = some (.string (s)) ∧ w.heap.size + 1 < w'.heap.size ∧ w'.cell? ⟨w.heap.size + 1, 0, none⟩ = some (.int .i64 (l)) ∧ w'.cell? ⟨w.heap.size + 1, 1, none⟩ = some (.int .i64 (m)) ∧ w'.cell? ⟨w.heap.size + 1, 2, none⟩ = some (.string (t)) ∧ W2.heap.size < w'.heap.size ∧ w'.cell? ⟨W2.heap.size, 0, none⟩ = some (.int .i64 ((notS ⟨k, n, s⟩).1.k)) ∧ w'.cell? ⟨W2.heap.size, 1, none⟩ = some (.int .i64 ((notS ⟨k, n, s⟩).1.n)) ∧ w'.cell? ⟨W2.heap.size, 2, none⟩ = some (.string ((notS ⟨k, n, s⟩).1.s)) ∧ W3.heap.size < w'.heap.size ∧ w'.cell? ⟨W3.heap.size, 0, none⟩ = some (.int .i64 ((notS ⟨k, n, s⟩).1.k)) ∧ w'.cell? ⟨W3.heap.size, 1, none⟩ = some (.int .i64 ((notS ⟨k, n, s⟩).1.n)) ∧ w'.cell? ⟨W3.heap.size, 2, none⟩ = some (.string ((notS ⟨k, n, s⟩).1.s)))
    (go_keep) (first | (go_at_call 29; go_must (refine (right_any ⟨k, n, s⟩ _).mono ?_; rintro e w1 ⟨rfl, hb⟩; obtain ⟨hc, hz, hf⟩ := kept hb; (try simp only [World.size_drew, World.cell?_drew, World.frozen?_drew] at hc hz hf))) | (go_at_call 30; go_must (refine (rright_any ⟨k, n, s⟩ _).mono ?_; rintro e w1 ⟨rfl, hb⟩; obtain ⟨hc, hz, hf⟩ := kept hb; (try simp only [World.size_drew, World.cell?_drew, World.frozen?_drew] at hc hz hf))) | (go_at_call 31; go_must (refine (compare_any ⟨k, n, s⟩ ⟨l, m, t⟩ _).mono ?_; rintro e w1 ⟨rfl, hb⟩; obtain ⟨hc, hz, hf⟩ := kept hb; (try simp only [World.size_drew, World.cell?_drew, World.frozen?_drew] at hc hz hf))) | (go_at_call 32; go_must (refine (rcompare_any ⟨k, n, s⟩ ⟨l, m, t⟩ _).mono ?_; rintro e w1 ⟨rfl, hb⟩; obtain ⟨hc, hz, hf⟩ := kept hb; (try simp only [World.size_drew, World.cell?_drew, World.frozen?_drew] at hc hz hf))))
  go_wp2
  go_ret
  refine ⟨?_, ?_⟩
  · simp
  · (repeat (first | exact ext_refl _ | assumption | (refine ext_alloc ?_ _) | (refine ext_drewN ?_ _) | refine ext_drew ?_ | (refine ext_set (by first | (simp; done) | (simp; omega)) _ ?_) | (refine ext_trans ?_ (by assumption))))

set_option maxRecDepth 100000 in
theorem valueTells_lifted (os : Os) (started : os.Started) (H : Type) (enc : TypeId × Value → H) :
    ReturnsInHanded {} Try.checked os 4 .any (Rows.valueTellsSpec.pre6 enc Try.prog Try.f4 Rows.valueTellsRow.domain false) (Rows.valueTellsSpec.post enc Try.prog Try.f4 false true false false) := by
  refine returnsInHanded_of_change (C := Try.checked) Try.own started (by kernel_rfl) Try.func4
    (ChangeSpec.witness6 (enc := enc) (C := Try.checked) false ⟨#[], #[.int .i64 0, .agg #[.int .i64 0, .int .i64 0, .string ⟨#[]⟩], .agg #[.int .i64 0, .int .i64 0, .string ⟨#[]⟩]], []⟩ 8 (by kernel_rfl) (by kernel_rfl) (by kernel_rfl) (by kernel_rfl)) ?_
  intro W base args ds gs before hval0 hW _ _
  have hval : ∀ (j : Nat) t v, Try.f4.params[j]? = some t → args[j]? = some v → Value.okWide Try.prog W .any base t v := hval0
  have hW' := hW
  obtain ⟨p, q, hA0, hV, rfl, _, _⟩ := hW
  have hA : DataW.TrodAll enc Try.prog W 0 (fun _ => true) true Try.f4.params.toList args.toList ds p := hA0
  rw [Try.params4] at hA hval
  obtain ⟨v0, v1, v2, d0, d1, d2, p0, p1, p2, rfl, rfl, rfl, h0, h1, h2⟩ := trodAll_three hA
  obtain ⟨x0, rfl, nx0⟩ := open_num (hval 0 3 v0 rfl rfl) h0
  obtain ⟨x1, rfl, kx1, nx1, sx1⟩ := open_val (hval 1 23 v1 rfl rfl) h1
  obtain ⟨x2, rfl, kx2, nx2, sx2⟩ := open_val (hval 2 23 v2 rfl rfl) h2
  clear hA0 hval0
  refine (tells_walk x0 x1 x2 W).mono fun e W' ⟨he, hb⟩ => ⟨_, he, post_law rfl hW' rfl rfl ?_ hb⟩
  intro t ht
  rw [Try.params4] at ht
  simp only [List.mem_cons, List.not_mem_nil, or_false] at ht
  rcases ht with rfl | rfl | rfl <;> exact ⟨by kernel_rfl, of_decide_eq_true (by kernel_rfl)⟩

theorem valueTells_holds : Rows.ValueTellsSaid :=
  OpenClaim.holds_of_wide 4 Try.f4 rfl rfl rfl rfl rfl rfl rfl ⟨rfl, rfl, rfl, rfl, rfl⟩ rfl rfl rfl rfl rfl (by kernel_rfl) Try.func4 (by kernel_rfl)
    (of_decide_eq_true (by kernel_rfl)) (by unfold Func.isWrapper; rw [if_neg (of_decide_eq_false (by kernel_rfl))]; exact ⟨rfl, rfl⟩)
    (fun os started H enc _ => valueTells_lifted os started H enc)

#print axioms valueTells_holds
end Go.Proofs.Ytklbomfcejgbmaa
