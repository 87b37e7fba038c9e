/- ValueLogic: Not of And is Or of Nots; And and Or may be reckoned in any order, and And in any brackets: true for every input, without a condition. -/
import Derived.Test.YtklbomfcejgbmaaValP
import Derived.Test.YtklbomfcejgbmaaValF
namespace Go.Proofs.Ytklbomfcejgbmaa
open Go.ChangeShapes Go.WideShapes Go.ChangeAt Go.RowKit Go.Joins

theorem logic_facts (i j k : Nat) (hi : i < 3) (hj : j < 3) (hk : k < 3) : ∃ RX RU RV RW RP RQ RO : Val, conn 0 1 (tri i) (tri j) = (RX, 0) ∧ conn 0 1 (tri j) (tri i) = (RX, 0) ∧ notS (tri i) = (RU, 0) ∧ notS (tri j) = (RV, 0) ∧ conn 1 0 RU RV = (RW, 0) ∧ notS RX = (RW, 0) ∧
    conn 0 1 RX (tri k) = (RP, 0) ∧ conn 0 1 (tri j) (tri k) = (RQ, 0) ∧ conn 0 1 (tri i) RQ = (RP, 0) ∧ conn 1 0 (tri i) (tri j) = (RO, 0) ∧ conn 1 0 (tri j) (tri i) = (RO, 0) := by
  refine ⟨(conn 0 1 (tri i) (tri j)).1, (notS (tri i)).1, (notS (tri j)).1, (notS (conn 0 1 (tri i) (tri j)).1).1, (conn 0 1 (conn 0 1 (tri i) (tri j)).1 (tri k)).1, (conn 0 1 (tri j) (tri k)).1, (conn 1 0 (tri i) (tri j)).1, ?_⟩
  have ci : i = 0 ∨ i = 1 ∨ i = 2 := by omega
  have cj : j = 0 ∨ j = 1 ∨ j = 2 := by omega
  have ck : k = 0 ∨ k = 1 ∨ k = 2 := by omega
  rcases ci with rfl | rfl | rfl <;> rcases cj with rfl | rfl | rfl <;> rcases ck with rfl | rfl | rfl <;> simp [tri, conn, notS, Val.nullOr, Val.right]

set_option maxHeartbeats 4000000 in
set_option maxRecDepth 100000 in
theorem logic_walk (i k l : Int) (w : World) (hi : inR i = true) (hk : inR k = true) (hl : inR l = true) : Calls Try.prog 8 #[.int .i64 i, .int .i64 k, .int .i64 l] w fun e w' => e = .returned (.bool true) ∧ Below w.heap.size w w' := by
  have Hi := Lib.hid hi
  have Hk := Lib.hid hk
  have Hl := Lib.hid hl
  clear hi hk hl
  have E := ext_refl w
  go_enter Try.func8, Try.ntmps8
  go_wp2_with fail
  refine (examples_any _).mono ?_
  rintro e W1 ⟨rfl, hb⟩
  have E := ext_trans E hb
  clear hb
  go_wp2_with fail
  refine (t_any _ _).mono ?_
  rintro e W2 ⟨rfl, hb⟩
  have E := ext_trans E hb
  clear hb
  go_wp2_with fail
  refine (t_any _ _).mono ?_
  rintro e W3 ⟨rfl, hb⟩
  have E := ext_trans E hb
  clear hb
  go_wp2_with fail
  have T := Tab.new W3 23
  have E := ext_alloc E (.cells #[.int .i64 0, .int .i64 0, .string ⟨#[]⟩, .int .i64 2, .int .i64 0, .string ⟨#[]⟩, .int .i64 2, .int .i64 1, .string ⟨#[]⟩] 23)
  generalize (W3.alloc (.cells #[.int .i64 0, .int .i64 0, .string ⟨#[]⟩, .int .i64 2, .int .i64 0, .string ⟨#[]⟩, .int .i64 2, .int .i64 1, .string ⟨#[]⟩] 23)) = G0 at *
  generalize W3.heap.size = tb at *
  refine (pick_any _ _ Hi.out).mono ?_
  rintro e W0 ⟨rfl, rfl⟩
  have q0 := pk_lt i
  generalize pk i = t0 at *
  obtain ⟨r00, r01, r02⟩ := T.2 t0 q0
  have ga : w.heap.size ≤ G0.heap.size := E.size
  go_wp2_with fail
  have T := T.alloc (.cells #[.int .i64 ((tri t0).k), .int .i64 ((tri t0).n), .string ((tri t0).s)] 23)
  have Pa := Box.new G0 ((tri t0).k) ((tri t0).n) ((tri t0).s) 23
  have E := ext_alloc E (.cells #[.int .i64 ((tri t0).k), .int .i64 ((tri t0).n), .string ((tri t0).s)] 23)
  generalize (G0.alloc (.cells #[.int .i64 ((tri t0).k), .int .i64 ((tri t0).n), .string ((tri t0).s)] 23)) = G1 at *
  obtain ⟨la, ca0, ca1, ca2, fa⟩ := id Pa
  refine (pick_any _ _ Hk.out).mono ?_
  rintro e W0 ⟨rfl, rfl⟩
  have q1 := pk_lt k
  generalize pk k = t1 at *
  obtain ⟨r10, r11, r12⟩ := T.2 t1 q1
  have gb : w.heap.size ≤ G1.heap.size := E.size
  have nab : G0.heap.size ≠ G1.heap.size := Nat.ne_of_lt Pa.lt
  go_wp2_with fail
  clear la ca0 ca1 ca2 fa
  have Pa := Pa.alloc (.cells #[.int .i64 ((tri t1).k), .int .i64 ((tri t1).n), .string ((tri t1).s)] 23)
  have T := T.alloc (.cells #[.int .i64 ((tri t1).k), .int .i64 ((tri t1).n), .string ((tri t1).s)] 23)
  have Pb := Box.new G1 ((tri t1).k) ((tri t1).n) ((tri t1).s) 23
  have E := ext_alloc E (.cells #[.int .i64 ((tri t1).k), .int .i64 ((tri t1).n), .string ((tri t1).s)] 23)
  generalize (G1.alloc (.cells #[.int .i64 ((tri t1).k), .int .i64 ((tri t1).n), .string ((tri t1).s)] 23)) = G2 at *
  obtain ⟨la, ca0, ca1, ca2, fa⟩ := id Pa
  obtain ⟨lb, cb0, cb1, cb2, fb⟩ := id Pb
  refine (pick_any _ _ Hl.out).mono ?_
  rintro e W0 ⟨rfl, rfl⟩
  have q2 := pk_lt l
  generalize pk l = t2 at *
  obtain ⟨r20, r21, r22⟩ := T.2 t2 q2
  have gc : w.heap.size ≤ G2.heap.size := E.size
  have nac : G0.heap.size ≠ G2.heap.size := Nat.ne_of_lt Pa.lt
  have nbc : G1.heap.size ≠ G2.heap.size := Nat.ne_of_lt Pb.lt
  go_wp2_with fail
  clear la ca0 ca1 ca2 fa lb cb0 cb1 cb2 fb
  have Pa := Pa.alloc (.cells #[.int .i64 ((tri t2).k), .int .i64 ((tri t2).n), .string ((tri t2).s)] 23)
  have Pb := Pb.alloc (.cells #[.int .i64 ((tri t2).k), .int .i64 ((tri t2).n), .string ((tri t2).s)] 23)
  have T := T.alloc (.cells #[.int .i64 ((tri t2).k), .int .i64 ((tri t2).n), .string ((tri t2).s)] 23)
  have Pc := Box.new G2 ((tri t2).k) ((tri t2).n) ((tri t2).s) 23
  have E := ext_alloc E (.cells #[.int .i64 ((tri t2).k), .int .i64 ((tri t2).n), .string ((tri t2).s)] 23)
  generalize (G2.alloc (.cells #[.int .i64 ((tri t2).k), .int .i64 ((tri t2).n), .string ((tri t2).s)] 23)) = G3 at *
  obtain ⟨la, ca0, ca1, ca2, fa⟩ := id Pa
  obtain ⟨lb, cb0, cb1, cb2, fb⟩ := id Pb
  obtain ⟨lc, cc0, cc1, cc2, fc⟩ := id Pc
  clear r20 r21 r22 T
  obtain ⟨RX, RU, RV, RW, RP, RQ, RO, f1, f2, f3, f4, f5, f6, f7, f8, f9, f10, f11⟩ := logic_facts t0 t1 t2 q0 q1 q2
  have F1 := Lib.hid f1
  have F2 := Lib.hid f2
  have F3 := Lib.hid f3
  have F4 := Lib.hid f4
  have F5 := Lib.hid f5
  have F6 := Lib.hid f6
  have F7 := Lib.hid f7
  have F8 := Lib.hid f8
  have F9 := Lib.hid f9
  have F10 := Lib.hid f10
  have F11 := Lib.hid f11
  clear f1 f2 f3 f4 f5 f6 f7 f8 f9 f10 f11
  refine (and_any (tri t0) (tri t1) _).mono ?_
  rintro e W4 ⟨rfl, hb⟩
  rw [F1.out]
  clear la ca0 ca1 ca2 fa lb cb0 cb1 cb2 fb lc cc0 cc1 cc2 fc
  have Pa := (Pa).ext hb
  have Pb := (Pb).ext hb
  have Pc := (Pc).ext hb
  have E := ext_trans (E) hb
  clear hb
  obtain ⟨la, ca0, ca1, ca2, fa⟩ := id Pa
  obtain ⟨lb, cb0, cb1, cb2, fb⟩ := id Pb
  obtain ⟨lc, cc0, cc1, cc2, fc⟩ := id Pc
  have gx : w.heap.size ≤ W4.heap.size := E.size
  have nax : G0.heap.size ≠ W4.heap.size := Nat.ne_of_lt Pa.lt
  have nbx : G1.heap.size ≠ W4.heap.size := Nat.ne_of_lt Pb.lt
  have ncx : G2.heap.size ≠ W4.heap.size := Nat.ne_of_lt Pc.lt
  go_wp2_with fail
  refine (and_any (tri t1) (tri t0) _).mono ?_
  rintro e W5 ⟨rfl, hb⟩
  rw [F2.out]
  clear la ca0 ca1 ca2 fa lb cb0 cb1 cb2 fb lc cc0 cc1 cc2 fc
  have Pa := (((Pa).alloc _)).ext hb
  have Pb := (((Pb).alloc _)).ext hb
  have Pc := (((Pc).alloc _)).ext hb
  have Px := (Box.new _ (RX.k) (RX.n) (RX.s) _).ext hb
  have E := ext_trans (ext_alloc (E) _) hb
  clear hb
  obtain ⟨la, ca0, ca1, ca2, fa⟩ := id Pa
  obtain ⟨lb, cb0, cb1, cb2, fb⟩ := id Pb
  obtain ⟨lc, cc0, cc1, cc2, fc⟩ := id Pc
  obtain ⟨lx, cx0, cx1, cx2, fx⟩ := id Px
  have gy : w.heap.size ≤ W5.heap.size := E.size
  have nay : G0.heap.size ≠ W5.heap.size := Nat.ne_of_lt Pa.lt
  have nby : G1.heap.size ≠ W5.heap.size := Nat.ne_of_lt Pb.lt
  have ncy : G2.heap.size ≠ W5.heap.size := Nat.ne_of_lt Pc.lt
  have nxy : W4.heap.size ≠ W5.heap.size := Nat.ne_of_lt Px.lt
  go_wp2_with fail
  refine (not_any (tri t0) _).mono ?_
  rintro e W6 ⟨rfl, hb⟩
  rw [F3.out]
  clear la ca0 ca1 ca2 fa lb cb0 cb1 cb2 fb lc cc0 cc1 cc2 fc lx cx0 cx1 cx2 fx
  have Pa := (((Pa).alloc _)).ext hb
  have Pb := (((Pb).alloc _)).ext hb
  have Pc := (((Pc).alloc _)).ext hb
  have Px := (((Px).alloc _)).ext hb
  have Py := (Box.new _ (RX.k) (RX.n) (RX.s) _).ext hb
  have E := ext_trans (ext_alloc (E) _) hb
  clear hb
  obtain ⟨la, ca0, ca1, ca2, fa⟩ := id Pa
  obtain ⟨lb, cb0, cb1, cb2, fb⟩ := id Pb
  obtain ⟨lc, cc0, cc1, cc2, fc⟩ := id Pc
  obtain ⟨lx, cx0, cx1, cx2, fx⟩ := id Px
  obtain ⟨ly, cy0, cy1, cy2, fy⟩ := id Py
  have gu : w.heap.size ≤ W6.heap.size := E.size
  have nau : G0.heap.size ≠ W6.heap.size := Nat.ne_of_lt Pa.lt
  have nbu : G1.heap.size ≠ W6.heap.size := Nat.ne_of_lt Pb.lt
  have ncu : G2.heap.size ≠ W6.heap.size := Nat.ne_of_lt Pc.lt
  have nxu : W4.heap.size ≠ W6.heap.size := Nat.ne_of_lt Px.lt
  have nyu : W5.heap.size ≠ W6.heap.size := Nat.ne_of_lt Py.lt
  go_wp2_with fail
  refine (not_any (tri t1) _).mono ?_
  rintro e W7 ⟨rfl, hb⟩
  rw [F4.out]
  clear la ca0 ca1 ca2 fa lb cb0 cb1 cb2 fb lc cc0 cc1 cc2 fc lx cx0 cx1 cx2 fx ly cy0 cy1 cy2 fy
  have Pa := (((Pa).alloc _)).ext hb
  have Pb := (((Pb).alloc _)).ext hb
  have Pc := (((Pc).alloc _)).ext hb
  have Px := (((Px).alloc _)).ext hb
  have Py := (((Py).alloc _)).ext hb
  have Pu := (Box.new _ (RU.k) (RU.n) (RU.s) _).ext hb
  have E := ext_trans (ext_alloc (E) _) hb
  clear hb
  obtain ⟨la, ca0, ca1, ca2, fa⟩ := id Pa
  obtain ⟨lb, cb0, cb1, cb2, fb⟩ := id Pb
  obtain ⟨lc, cc0, cc1, cc2, fc⟩ := id Pc
  obtain ⟨lx, cx0, cx1, cx2, fx⟩ := id Px
  obtain ⟨ly, cy0, cy1, cy2, fy⟩ := id Py
  obtain ⟨lu, cu0, cu1, cu2, fu⟩ := id Pu
  have gv : w.heap.size ≤ W7.heap.size := E.size
  have nav : G0.heap.size ≠ W7.heap.size := Nat.ne_of_lt Pa.lt
  have nbv : G1.heap.size ≠ W7.heap.size := Nat.ne_of_lt Pb.lt
  have ncv : G2.heap.size ≠ W7.heap.size := Nat.ne_of_lt Pc.lt
  have nxv : W4.heap.size ≠ W7.heap.size := Nat.ne_of_lt Px.lt
  have nyv : W5.heap.size ≠ W7.heap.size := Nat.ne_of_lt Py.lt
  have nuv : W6.heap.size ≠ W7.heap.size := Nat.ne_of_lt Pu.lt
  go_wp2_with fail
  refine (or_any RU RV _).mono ?_
  rintro e W8 ⟨rfl, hb⟩
  rw [F5.out]
  clear la ca0 ca1 ca2 fa lb cb0 cb1 cb2 fb lc cc0 cc1 cc2 fc lx cx0 cx1 cx2 fx ly cy0 cy1 cy2 fy lu cu0 cu1 cu2 fu
  have Pa := (((Pa).alloc _)).ext hb
  have Pb := (((Pb).alloc _)).ext hb
  have Pc := (((Pc).alloc _)).ext hb
  have Px := (((Px).alloc _)).ext hb
  have Py := (((Py).alloc _)).ext hb
  have Pu := (((Pu).alloc _)).ext hb
  have Pv := (Box.new _ (RV.k) (RV.n) (RV.s) _).ext hb
  have E := ext_trans (ext_alloc (E) _) hb
  clear hb
  obtain ⟨la, ca0, ca1, ca2, fa⟩ := id Pa
  obtain ⟨lb, cb0, cb1, cb2, fb⟩ := id Pb
  obtain ⟨lc, cc0, cc1, cc2, fc⟩ := id Pc
  obtain ⟨lx, cx0, cx1, cx2, fx⟩ := id Px
  obtain ⟨ly, cy0, cy1, cy2, fy⟩ := id Py
  obtain ⟨lu, cu0, cu1, cu2, fu⟩ := id Pu
  obtain ⟨lv, cv0, cv1, cv2, fv⟩ := id Pv
  have gw1 : w.heap.size ≤ W8.heap.size := E.size
  have naw1 : G0.heap.size ≠ W8.heap.size := Nat.ne_of_lt Pa.lt
  have nbw1 : G1.heap.size ≠ W8.heap.size := Nat.ne_of_lt Pb.lt
  have ncw1 : G2.heap.size ≠ W8.heap.size := Nat.ne_of_lt Pc.lt
  have nxw1 : W4.heap.size ≠ W8.heap.size := Nat.ne_of_lt Px.lt
  have nyw1 : W5.heap.size ≠ W8.heap.size := Nat.ne_of_lt Py.lt
  have nuw1 : W6.heap.size ≠ W8.heap.size := Nat.ne_of_lt Pu.lt
  have nvw1 : W7.heap.size ≠ W8.heap.size := Nat.ne_of_lt Pv.lt
  go_wp2_with fail
  refine (not_any RX _).mono ?_
  rintro e W9 ⟨rfl, hb⟩
  rw [F6.out]
  clear la ca0 ca1 ca2 fa lb cb0 cb1 cb2 fb lc cc0 cc1 cc2 fc lx cx0 cx1 cx2 fx ly cy0 cy1 cy2 fy lu cu0 cu1 cu2 fu lv cv0 cv1 cv2 fv
  have Pa := (((Pa).alloc _)).ext hb
  have Pb := (((Pb).alloc _)).ext hb
  have Pc := (((Pc).alloc _)).ext hb
  have Px := (((Px).alloc _)).ext hb
  have Py := (((Py).alloc _)).ext hb
  have Pu := (((Pu).alloc _)).ext hb
  have Pv := (((Pv).alloc _)).ext hb
  have Pw1 := (Box.new _ (RW.k) (RW.n) (RW.s) _).ext hb
  have E := ext_trans (ext_alloc (E) _) hb
  clear hb
  obtain ⟨la, ca0, ca1, ca2, fa⟩ := id Pa
  obtain ⟨lb, cb0, cb1, cb2, fb⟩ := id Pb
  obtain ⟨lc, cc0, cc1, cc2, fc⟩ := id Pc
  obtain ⟨lx, cx0, cx1, cx2, fx⟩ := id Px
  obtain ⟨ly, cy0, cy1, cy2, fy⟩ := id Py
  obtain ⟨lu, cu0, cu1, cu2, fu⟩ := id Pu
  obtain ⟨lv, cv0, cv1, cv2, fv⟩ := id Pv
  obtain ⟨lw1, cw10, cw11, cw12, fw1⟩ := id Pw1
  have gz : w.heap.size ≤ W9.heap.size := E.size
  have naz : G0.heap.size ≠ W9.heap.size := Nat.ne_of_lt Pa.lt
  have nbz : G1.heap.size ≠ W9.heap.size := Nat.ne_of_lt Pb.lt
  have ncz : G2.heap.size ≠ W9.heap.size := Nat.ne_of_lt Pc.lt
  have nxz : W4.heap.size ≠ W9.heap.size := Nat.ne_of_lt Px.lt
  have nyz : W5.heap.size ≠ W9.heap.size := Nat.ne_of_lt Py.lt
  have nuz : W6.heap.size ≠ W9.heap.size := Nat.ne_of_lt Pu.lt
  have nvz : W7.heap.size ≠ W9.heap.size := Nat.ne_of_lt Pv.lt
  have nw1z : W8.heap.size ≠ W9.heap.size := Nat.ne_of_lt Pw1.lt
  go_wp2_with fail
  refine (and_any RX (tri t2) _).mono ?_
  rintro e W10 ⟨rfl, hb⟩
  rw [F7.out]
  clear la ca0 ca1 ca2 fa lb cb0 cb1 cb2 fb lc cc0 cc1 cc2 fc lx cx0 cx1 cx2 fx ly cy0 cy1 cy2 fy lu cu0 cu1 cu2 fu lv cv0 cv1 cv2 fv lw1 cw10 cw11 cw12 fw1
  have Pa := (((Pa).alloc _)).ext hb
  have Pb := (((Pb).alloc _)).ext hb
  have Pc := (((Pc).alloc _)).ext hb
  have Px := (((Px).alloc _)).ext hb
  have Py := (((Py).alloc _)).ext hb
  have Pu := (((Pu).alloc _)).ext hb
  have Pv := (((Pv).alloc _)).ext hb
  have Pw1 := (((Pw1).alloc _)).ext hb
  have Pz := (Box.new _ (RW.k) (RW.n) (RW.s) _).ext hb
  have E := ext_trans (ext_alloc (E) _) hb
  clear hb
  obtain ⟨la, ca0, ca1, ca2, fa⟩ := id Pa
  obtain ⟨lb, cb0, cb1, cb2, fb⟩ := id Pb
  obtain ⟨lc, cc0, cc1, cc2, fc⟩ := id Pc
  obtain ⟨lx, cx0, cx1, cx2, fx⟩ := id Px
  obtain ⟨ly, cy0, cy1, cy2, fy⟩ := id Py
  obtain ⟨lu, cu0, cu1, cu2, fu⟩ := id Pu
  obtain ⟨lv, cv0, cv1, cv2, fv⟩ := id Pv
  obtain ⟨lw1, cw10, cw11, cw12, fw1⟩ := id Pw1
  obtain ⟨lz, cz0, cz1, cz2, fz⟩ := id Pz
  have gp : w.heap.size ≤ W10.heap.size := E.size
  have nap : G0.heap.size ≠ W10.heap.size := Nat.ne_of_lt Pa.lt
  have nbp : G1.heap.size ≠ W10.heap.size := Nat.ne_of_lt Pb.lt
  have ncp : G2.heap.size ≠ W10.heap.size := Nat.ne_of_lt Pc.lt
  have nxp : W4.heap.size ≠ W10.heap.size := Nat.ne_of_lt Px.lt
  have nyp : W5.heap.size ≠ W10.heap.size := Nat.ne_of_lt Py.lt
  have nup : W6.heap.size ≠ W10.heap.size := Nat.ne_of_lt Pu.lt
  have nvp : W7.heap.size ≠ W10.heap.size := Nat.ne_of_lt Pv.lt
  have nw1p : W8.heap.size ≠ W10.heap.size := Nat.ne_of_lt Pw1.lt
  have nzp : W9.heap.size ≠ W10.heap.size := Nat.ne_of_lt Pz.lt
  go_wp2_with fail
  refine (and_any (tri t1) (tri t2) _).mono ?_
  rintro e W11 ⟨rfl, hb⟩
  rw [F8.out]
  clear la ca0 ca1 ca2 fa lb cb0 cb1 cb2 fb lc cc0 cc1 cc2 fc lx cx0 cx1 cx2 fx ly cy0 cy1 cy2 fy lu cu0 cu1 cu2 fu lv cv0 cv1 cv2 fv lw1 cw10 cw11 cw12 fw1 lz cz0 cz1 cz2 fz
  have Pa := (((Pa).alloc _)).ext hb
  have Pb := (((Pb).alloc _)).ext hb
  have Pc := (((Pc).alloc _)).ext hb
  have Px := (((Px).alloc _)).ext hb
  have Py := (((Py).alloc _)).ext hb
  have Pu := (((Pu).alloc _)).ext hb
  have Pv := (((Pv).alloc _)).ext hb
  have Pw1 := (((Pw1).alloc _)).ext hb
  have Pz := (((Pz).alloc _)).ext hb
  have Pp := (Box.new _ (RP.k) (RP.n) (RP.s) _).ext hb
  have E := ext_trans (ext_alloc (E) _) hb
  clear hb
  obtain ⟨la, ca0, ca1, ca2, fa⟩ := id Pa
  obtain ⟨lb, cb0, cb1, cb2, fb⟩ := id Pb
  obtain ⟨lc, cc0, cc1, cc2, fc⟩ := id Pc
  obtain ⟨lx, cx0, cx1, cx2, fx⟩ := id Px
  obtain ⟨ly, cy0, cy1, cy2, fy⟩ := id Py
  obtain ⟨lu, cu0, cu1, cu2, fu⟩ := id Pu
  obtain ⟨lv, cv0, cv1, cv2, fv⟩ := id Pv
  obtain ⟨lw1, cw10, cw11, cw12, fw1⟩ := id Pw1
  obtain ⟨lz, cz0, cz1, cz2, fz⟩ := id Pz
  obtain ⟨lp, cp0, cp1, cp2, fp⟩ := id Pp
  have gq : w.heap.size ≤ W11.heap.size := E.size
  have naq : G0.heap.size ≠ W11.heap.size := Nat.ne_of_lt Pa.lt
  have nbq : G1.heap.size ≠ W11.heap.size := Nat.ne_of_lt Pb.lt
  have ncq : G2.heap.size ≠ W11.heap.size := Nat.ne_of_lt Pc.lt
  have nxq : W4.heap.size ≠ W11.heap.size := Nat.ne_of_lt Px.lt
  have nyq : W5.heap.size ≠ W11.heap.size := Nat.ne_of_lt Py.lt
  have nuq : W6.heap.size ≠ W11.heap.size := Nat.ne_of_lt Pu.lt
  have nvq : W7.heap.size ≠ W11.heap.size := Nat.ne_of_lt Pv.lt
  have nw1q : W8.heap.size ≠ W11.heap.size := Nat.ne_of_lt Pw1.lt
  have nzq : W9.heap.size ≠ W11.heap.size := Nat.ne_of_lt Pz.lt
  have npq : W10.heap.size ≠ W11.heap.size := Nat.ne_of_lt Pp.lt
  go_wp2_with fail
  refine (and_any (tri t0) RQ _).mono ?_
  rintro e W12 ⟨rfl, hb⟩
  rw [F9.out]
  clear la ca0 ca1 ca2 fa lb cb0 cb1 cb2 fb lc cc0 cc1 cc2 fc lx cx0 cx1 cx2 fx ly cy0 cy1 cy2 fy lu cu0 cu1 cu2 fu lv cv0 cv1 cv2 fv lw1 cw10 cw11 cw12 fw1 lz cz0 cz1 cz2 fz lp cp0 cp1 cp2 fp
  have Pa := (((Pa).alloc _)).ext hb
  have Pb := (((Pb).alloc _)).ext hb
  have Pc := (((Pc).alloc _)).ext hb
  have Px := (((Px).alloc _)).ext hb
  have Py := (((Py).alloc _)).ext hb
  have Pu := (((Pu).alloc _)).ext hb
  have Pv := (((Pv).alloc _)).ext hb
  have Pw1 := (((Pw1).alloc _)).ext hb
  have Pz := (((Pz).alloc _)).ext hb
  have Pp := (((Pp).alloc _)).ext hb
  have Pq := (Box.new _ (RQ.k) (RQ.n) (RQ.s) _).ext hb
  have E := ext_trans (ext_alloc (E) _) hb
  clear hb
  obtain ⟨la, ca0, ca1, ca2, fa⟩ := id Pa
  obtain ⟨lb, cb0, cb1, cb2, fb⟩ := id Pb
  obtain ⟨lc, cc0, cc1, cc2, fc⟩ := id Pc
  obtain ⟨lx, cx0, cx1, cx2, fx⟩ := id Px
  obtain ⟨ly, cy0, cy1, cy2, fy⟩ := id Py
  obtain ⟨lu, cu0, cu1, cu2, fu⟩ := id Pu
  obtain ⟨lv, cv0, cv1, cv2, fv⟩ := id Pv
  obtain ⟨lw1, cw10, cw11, cw12, fw1⟩ := id Pw1
  obtain ⟨lz, cz0, cz1, cz2, fz⟩ := id Pz
  obtain ⟨lp, cp0, cp1, cp2, fp⟩ := id Pp
  obtain ⟨lq, cq0, cq1, cq2, fq⟩ := id Pq
  have gr : w.heap.size ≤ W12.heap.size := E.size
  have nar : G0.heap.size ≠ W12.heap.size := Nat.ne_of_lt Pa.lt
  have nbr : G1.heap.size ≠ W12.heap.size := Nat.ne_of_lt Pb.lt
  have ncr : G2.heap.size ≠ W12.heap.size := Nat.ne_of_lt Pc.lt
  have nxr : W4.heap.size ≠ W12.heap.size := Nat.ne_of_lt Px.lt
  have nyr : W5.heap.size ≠ W12.heap.size := Nat.ne_of_lt Py.lt
  have nur : W6.heap.size ≠ W12.heap.size := Nat.ne_of_lt Pu.lt
  have nvr : W7.heap.size ≠ W12.heap.size := Nat.ne_of_lt Pv.lt
  have nw1r : W8.heap.size ≠ W12.heap.size := Nat.ne_of_lt Pw1.lt
  have nzr : W9.heap.size ≠ W12.heap.size := Nat.ne_of_lt Pz.lt
  have npr : W10.heap.size ≠ W12.heap.size := Nat.ne_of_lt Pp.lt
  have nqr : W11.heap.size ≠ W12.heap.size := Nat.ne_of_lt Pq.lt
  go_wp2_with fail
  refine (or_any (tri t0) (tri t1) _).mono ?_
  rintro e W13 ⟨rfl, hb⟩
  rw [F10.out]
  clear la ca0 ca1 ca2 fa lb cb0 cb1 cb2 fb lc cc0 cc1 cc2 fc lx cx0 cx1 cx2 fx ly cy0 cy1 cy2 fy lu cu0 cu1 cu2 fu lv cv0 cv1 cv2 fv lw1 cw10 cw11 cw12 fw1 lz cz0 cz1 cz2 fz lp cp0 cp1 cp2 fp lq cq0 cq1 cq2 fq
  have Pa := (((Pa).alloc _)).ext hb
  have Pb := (((Pb).alloc _)).ext hb
  have Pc := (((Pc).alloc _)).ext hb
  have Px := (((Px).alloc _)).ext hb
  have Py := (((Py).alloc _)).ext hb
  have Pu := (((Pu).alloc _)).ext hb
  have Pv := (((Pv).alloc _)).ext hb
  have Pw1 := (((Pw1).alloc _)).ext hb
  have Pz := (((Pz).alloc _)).ext hb
  have Pp := (((Pp).alloc _)).ext hb
  have Pq := (((Pq).alloc _)).ext hb
  have Pr := (Box.new _ (RP.k) (RP.n) (RP.s) _).ext hb
  have E := ext_trans (ext_alloc (E) _) hb
  clear hb
  obtain ⟨la, ca0, ca1, ca2, fa⟩ := id Pa
  obtain ⟨lb, cb0, cb1, cb2, fb⟩ := id Pb
  obtain ⟨lc, cc0, cc1, cc2, fc⟩ := id Pc
  obtain ⟨lx, cx0, cx1, cx2, fx⟩ := id Px
  obtain ⟨ly, cy0, cy1, cy2, fy⟩ := id Py
  obtain ⟨lu, cu0, cu1, cu2, fu⟩ := id Pu
  obtain ⟨lv, cv0, cv1, cv2, fv⟩ := id Pv
  obtain ⟨lw1, cw10, cw11, cw12, fw1⟩ := id Pw1
  obtain ⟨lz, cz0, cz1, cz2, fz⟩ := id Pz
  obtain ⟨lp, cp0, cp1, cp2, fp⟩ := id Pp
  obtain ⟨lq, cq0, cq1, cq2, fq⟩ := id Pq
  obtain ⟨lr, cr0, cr1, cr2, fr⟩ := id Pr
  have go : w.heap.size ≤ W13.heap.size := E.size
  have nao : G0.heap.size ≠ W13.heap.size := Nat.ne_of_lt Pa.lt
  have nbo : G1.heap.size ≠ W13.heap.size := Nat.ne_of_lt Pb.lt
  have nco : G2.heap.size ≠ W13.heap.size := Nat.ne_of_lt Pc.lt
  have nxo : W4.heap.size ≠ W13.heap.size := Nat.ne_of_lt Px.lt
  have nyo : W5.heap.size ≠ W13.heap.size := Nat.ne_of_lt Py.lt
  have nuo : W6.heap.size ≠ W13.heap.size := Nat.ne_of_lt Pu.lt
  have nvo : W7.heap.size ≠ W13.heap.size := Nat.ne_of_lt Pv.lt
  have nw1o : W8.heap.size ≠ W13.heap.size := Nat.ne_of_lt Pw1.lt
  have nzo : W9.heap.size ≠ W13.heap.size := Nat.ne_of_lt Pz.lt
  have npo : W10.heap.size ≠ W13.heap.size := Nat.ne_of_lt Pp.lt
  have nqo : W11.heap.size ≠ W13.heap.size := Nat.ne_of_lt Pq.lt
  have nro : W12.heap.size ≠ W13.heap.size := Nat.ne_of_lt Pr.lt
  go_wp2_with fail
  refine (or_any (tri t1) (tri t0) _).mono ?_
  rintro e W14 ⟨rfl, hb⟩
  rw [F11.out]
  clear la ca0 ca1 ca2 fa lb cb0 cb1 cb2 fb lc cc0 cc1 cc2 fc lx cx0 cx1 cx2 fx ly cy0 cy1 cy2 fy lu cu0 cu1 cu2 fu lv cv0 cv1 cv2 fv lw1 cw10 cw11 cw12 fw1 lz cz0 cz1 cz2 fz lp cp0 cp1 cp2 fp lq cq0 cq1 cq2 fq lr cr0 cr1 cr2 fr
  have Pa := (((Pa).alloc _)).ext hb
  have Pb := (((Pb).alloc _)).ext hb
  have Pc := (((Pc).alloc _)).ext hb
  have Px := (((Px).alloc _)).ext hb
  have Py := (((Py).alloc _)).ext hb
  have Pu := (((Pu).alloc _)).ext hb
  have Pv := (((Pv).alloc _)).ext hb
  have Pw1 := (((Pw1).alloc _)).ext hb
  have Pz := (((Pz).alloc _)).ext hb
  have Pp := (((Pp).alloc _)).ext hb
  have Pq := (((Pq).alloc _)).ext hb
  have Pr := (((Pr).alloc _)).ext hb
  have Po := (Box.new _ (RO.k) (RO.n) (RO.s) _).ext hb
  have E := ext_trans (ext_alloc (E) _) hb
  clear hb
  obtain ⟨la, ca0, ca1, ca2, fa⟩ := id Pa
  obtain ⟨lb, cb0, cb1, cb2, fb⟩ := id Pb
  obtain ⟨lc, cc0, cc1, cc2, fc⟩ := id Pc
  obtain ⟨lx, cx0, cx1, cx2, fx⟩ := id Px
  obtain ⟨ly, cy0, cy1, cy2, fy⟩ := id Py
  obtain ⟨lu, cu0, cu1, cu2, fu⟩ := id Pu
  obtain ⟨lv, cv0, cv1, cv2, fv⟩ := id Pv
  obtain ⟨lw1, cw10, cw11, cw12, fw1⟩ := id Pw1
  obtain ⟨lz, cz0, cz1, cz2, fz⟩ := id Pz
  obtain ⟨lp, cp0, cp1, cp2, fp⟩ := id Pp
  obtain ⟨lq, cq0, cq1, cq2, fq⟩ := id Pq
  obtain ⟨lr, cr0, cr1, cr2, fr⟩ := id Pr
  obtain ⟨lo, co0, co1, co2, fo⟩ := id Po
  have gm : w.heap.size ≤ W14.heap.size := E.size
  have nam : G0.heap.size ≠ W14.heap.size := Nat.ne_of_lt Pa.lt
  have nbm : G1.heap.size ≠ W14.heap.size := Nat.ne_of_lt Pb.lt
  have ncm : G2.heap.size ≠ W14.heap.size := Nat.ne_of_lt Pc.lt
  have nxm : W4.heap.size ≠ W14.heap.size := Nat.ne_of_lt Px.lt
  have nym : W5.heap.size ≠ W14.heap.size := Nat.ne_of_lt Py.lt
  have num : W6.heap.size ≠ W14.heap.size := Nat.ne_of_lt Pu.lt
  have nvm : W7.heap.size ≠ W14.heap.size := Nat.ne_of_lt Pv.lt
  have nw1m : W8.heap.size ≠ W14.heap.size := Nat.ne_of_lt Pw1.lt
  have nzm : W9.heap.size ≠ W14.heap.size := Nat.ne_of_lt Pz.lt
  have npm : W10.heap.size ≠ W14.heap.size := Nat.ne_of_lt Pp.lt
  have nqm : W11.heap.size ≠ W14.heap.size := Nat.ne_of_lt Pq.lt
  have nrm : W12.heap.size ≠ W14.heap.size := Nat.ne_of_lt Pr.lt
  have nom : W13.heap.size ≠ W14.heap.size := Nat.ne_of_lt Po.lt
  go_wp2_with fail
  go_ret
  refine ⟨by first | rfl | (simp; done) | (simp; omega), ?_⟩
  (repeat (first | exact ext_refl _ | assumption | (refine ext_alloc ?_ _) | (refine ext_drewN ?_ _) | refine ext_drew ?_ | (refine ext_set (by first | (simp; done) | (simp; omega)) _ ?_) | (refine ext_trans ?_ (by assumption))))

set_option maxRecDepth 100000 in
theorem valueLogic_lifted (os : Os) (started : os.Started) (H : Type) (enc : TypeId × Value → H) :
    ReturnsInHanded {} Try.checked os 8 .any (Rows.valueLogicSpec.pre6 enc Try.prog Try.f8 Rows.valueLogicRow.domain false) (Rows.valueLogicSpec.post enc Try.prog Try.f8 false true false false) := by
  refine returnsInHanded_of_change (C := Try.checked) Try.own started (by kernel_rfl) Try.func8
    (ChangeSpec.witness6 (enc := enc) (C := Try.checked) false ⟨#[], #[.int .i64 0, .int .i64 0, .int .i64 0], []⟩ 8 (by kernel_rfl) (by kernel_rfl) (by kernel_rfl) (by kernel_rfl)) ?_
  intro W base args ds gs before hval0 hW _ _
  have hval : ∀ (j : Nat) t v, Try.f8.params[j]? = some t → args[j]? = some v → Value.okWide Try.prog W .any base t v := hval0
  have hW' := hW
  obtain ⟨p, q, hA0, hV, rfl, _, _⟩ := hW
  have hA : DataW.TrodAll enc Try.prog W 0 (fun _ => true) true Try.f8.params.toList args.toList ds p := hA0
  rw [Try.params8] at hA hval
  obtain ⟨v0, v1, v2, d0, d1, d2, p0, p1, p2, rfl, rfl, rfl, h0, h1, h2⟩ := trodAll_three hA
  obtain ⟨x0, rfl, nx0⟩ := open_num (hval 0 3 v0 rfl rfl) h0
  obtain ⟨x1, rfl, nx1⟩ := open_num (hval 1 3 v1 rfl rfl) h1
  obtain ⟨x2, rfl, nx2⟩ := open_num (hval 2 3 v2 rfl rfl) h2
  clear hA0 hval0
  refine (logic_walk x0 x1 x2 W nx0 nx1 nx2).mono fun e W' ⟨he, hb⟩ => ⟨_, he, post_law rfl hW' rfl rfl ?_ hb⟩
  intro t ht
  rw [Try.params8] at ht
  simp only [List.mem_cons, List.not_mem_nil, or_false] at ht
  rcases ht with rfl | rfl | rfl <;> exact ⟨by kernel_rfl, of_decide_eq_true (by kernel_rfl)⟩

theorem valueLogic_holds : Rows.ValueLogicSaid :=
  OpenClaim.holds_of_wide 8 Try.f8 rfl rfl rfl rfl rfl rfl rfl ⟨rfl, rfl, rfl, rfl, rfl⟩ rfl rfl rfl rfl rfl (by kernel_rfl) Try.func8 (by kernel_rfl)
    (of_decide_eq_true (by kernel_rfl)) (by unfold Func.isWrapper; rw [if_neg (of_decide_eq_false (by kernel_rfl))]; exact ⟨rfl, rfl⟩)
    (fun os started H enc _ => valueLogic_lifted os started H enc)

#print axioms valueLogic_holds
end Go.Proofs.Ytklbomfcejgbmaa
