/- ValueBack: the sum does not fit. -/
import Derived.Test.YtklbomfcejgbmaaValC
import Derived.Test.YtklbomfcejgbmaaValE
import Derived.Test.YtklbomfcejgbmaaBox
import Derived.Test.YtklbomfcejgbmaaFrame
import Derived.Test.YtklbomfcejgbmaaAfter
namespace Go.Proofs.Ytklbomfcejgbmaa
open Go.ChangeShapes Go.WideShapes Go.ChangeAt Go.RowKit Go.Joins

set_option maxHeartbeats 8000000 in
theorem back_over_fit_fit (a b m c : Int) (w : World) (ha : inR a = true) (hb : inR b = true) (h4 : arith 4 (num a) (num b) = (nul, 3)) (hm : inR m = true) (hb0 : (b != 0) = true) (h6 : arith 6 (num a) (num b) = (num m, 0)) (h7 : arith 7 (num m) (num b) = (num a, 0)) (hc : inR c = true) (h8 : arith 5 (num 0) (num a) = (num c, 0)) (h9 : arith 5 (num 0) (num c) = (num a, 0)) : Calls Try.prog 6 #[.int .i64 a, .int .i64 b] w fun e w' => e = .returned (.bool true) ∧ Below w.heap.size w w' := by
  have Ha := Lib.hid ha
  have Hb := Lib.hid hb
  have H4 := Lib.hid h4
  have H6 := Lib.hid h6
  have Hm := Lib.hid hm
  have H7 := Lib.hid h7
  have Hc := Lib.hid hc
  have H8 := Lib.hid h8
  have H9 := Lib.hid h9
  clear ha hb h4 h6 hm h7 hc h8 h9
  have E := ext_refl w
  go_enter Try.func6, Try.ntmps6
  go_wp2_with fail
  refine (examples_any _).mono ?_
  rintro e W1 ⟨rfl, hb⟩
  have E := ext_trans E hb
  clear hb
  go_wp2_with fail
  refine (n_any _ _).mono ?_
  rintro e W2 ⟨rfl, hb⟩
  have E := ext_trans E hb
  clear hb
  go_wp2_with fail
  refine (n_any _ _).mono ?_
  rintro e W3 ⟨rfl, hb⟩
  have E := ext_trans E hb
  clear hb
  go_wp2_with fail
  refine (add_any (num a) (num b) _ Ha.out Hb.out).mono ?_
  rintro e W4 ⟨rfl, hb⟩
  rw [H4.out]
  have E := ext_trans E hb
  clear hb
  have gx : w.heap.size ≤ W4.heap.size := E.size
  go_wp2_with fail
  refine (n_any _ _).mono ?_
  rintro e W5 ⟨rfl, hb⟩
  have Px := (Box.new _ (0) (0) (⟨#[]⟩) _).ext hb
  have E := ext_trans (ext_alloc (E) _) hb
  clear hb
  obtain ⟨lx, cx0, cx1, cx2, fx⟩ := id Px
  go_wp2_with fail
  refine (n_any _ _).mono ?_
  rintro e W6 ⟨rfl, hb⟩
  clear lx cx0 cx1 cx2 fx
  have Px := (Px).ext hb
  have E := ext_trans (E) hb
  clear hb
  obtain ⟨lx, cx0, cx1, cx2, fx⟩ := id Px
  go_wp2_with fail
  refine (mul_any (num a) (num b) _ Ha.out Hb.out).mono ?_
  rintro e W7 ⟨rfl, hb⟩
  rw [H6.out]
  clear lx cx0 cx1 cx2 fx
  have Px := (Px).ext hb
  have E := ext_trans (E) hb
  clear hb
  obtain ⟨lx, cx0, cx1, cx2, fx⟩ := id Px
  have gz : w.heap.size ≤ W7.heap.size := E.size
  have nxz : W4.heap.size ≠ W7.heap.size := Nat.ne_of_lt Px.lt
  go_wp2_with fail
  clear lx cx0 cx1 cx2 fx
  have Px := Px.alloc (.cells #[.int .i64 (1), .int .i64 (m), .string (⟨#[]⟩)] 23)
  have Pz := Box.new W7 (1) (m) (⟨#[]⟩) 23
  have E := ext_alloc E (.cells #[.int .i64 (1), .int .i64 (m), .string (⟨#[]⟩)] 23)
  generalize (W7.alloc (.cells #[.int .i64 (1), .int .i64 (m), .string (⟨#[]⟩)] 23)) = G3 at *
  obtain ⟨lx, cx0, cx1, cx2, fx⟩ := id Px
  obtain ⟨lz, cz0, cz1, cz2, fz⟩ := id Pz
  go_region_held3 (fun w' => w'.cell? ⟨W7.heap.size, 0, none⟩ = some (.int .i64 (1)) ∧ w'.cell? ⟨W7.heap.size, 1, none⟩ = some (.int .i64 (m)) ∧ w'.cell? ⟨W7.heap.size, 2, none⟩ = some (.string (⟨#[]⟩)))
    (go_keep) (first | (go_at_call 33; go_must (refine (n_any _ _).mono ?_; rintro e W8 ⟨rfl, hb⟩; (first | (have Px := Px.drew.ext hb; have Pz := Pz.drew.ext hb; have E := ext_trans (ext_drew (E)) hb) | (have Pv := (Box.new G3 0 0 ⟨#[]⟩ 23).drew.ext hb; have gv : w.heap.size ≤ G3.heap.size := E.size; have nxv := Nat.ne_of_lt Px.lt; have mxv := Ne.symm nxv; have nzv := Nat.ne_of_lt Pz.lt; have mzv := Ne.symm nzv; have Px := (Px.alloc _).drew.ext hb; have Pz := (Pz.alloc _).drew.ext hb; have E := ext_trans (ext_drew (ext_alloc E _)) hb)); clear hb; obtain ⟨lx, cx0, cx1, cx2, fx⟩ := id Px; obtain ⟨lz, cz0, cz1, cz2, fz⟩ := id Pz; (try obtain ⟨lv, cv0, cv1, cv2, fv⟩ := id Pv))) | (go_at_call 17; go_must (refine (div_any (num m) (num b) _ Hm.out Hb.out).mono ?_; rintro e W9 ⟨rfl, hb⟩; rw [H7.out]; (first | (have Pv := Pv.ext hb; have Px := Px.ext hb; have Pz := Pz.ext hb; have E := ext_trans (E) hb) | (have Px := Px.ext hb; have Pz := Pz.ext hb; have E := ext_trans (E) hb) | (have Pv := (Box.new W8 0 0 ⟨#[]⟩ 23).ext hb; have gv : w.heap.size ≤ W8.heap.size := E.size; have nxv := Nat.ne_of_lt Px.lt; have mxv := Ne.symm nxv; have nzv := Nat.ne_of_lt Pz.lt; have mzv := Ne.symm nzv; have Px := (Px.alloc _).ext hb; have Pz := (Pz.alloc _).ext hb; have E := ext_trans (ext_alloc E _) hb)); clear hb; obtain ⟨lx, cx0, cx1, cx2, fx⟩ := id Px; obtain ⟨lz, cz0, cz1, cz2, fz⟩ := id Pz; (try obtain ⟨lv, cv0, cv1, cv2, fv⟩ := id Pv))))
  all_goals go_wp2_with fail
  all_goals first
    | (have Pv : Box _ G3.heap.size _ := Pv.set (1) (a) (⟨#[]⟩)
       clear lx cx0 cx1 cx2 fx lz cz0 cz1 cz2 fz lv cv0 cv1 cv2 fv
       have Px := Px.far3 nxv (.int .i64 (1)) (.int .i64 (a)) (.string (⟨#[]⟩))
       have Pz := Pz.far3 nzv (.int .i64 (1)) (.int .i64 (a)) (.string (⟨#[]⟩))
       have E := ext_set3 gv (.int .i64 (1)) (.int .i64 (a)) (.string (⟨#[]⟩)) E
       generalize (((W9.setCell ⟨G3.heap.size, 0, none⟩ (.int .i64 (1))).setCell ⟨G3.heap.size, 1, none⟩ (.int .i64 (a))).setCell ⟨G3.heap.size, 2, none⟩ (.string (⟨#[]⟩))) = G4 at *
       generalize G3.heap.size = bv at *)
    | (have Pv : Box _ W8.heap.size _ := Pv.set (1) (a) (⟨#[]⟩)
       clear lx cx0 cx1 cx2 fx lz cz0 cz1 cz2 fz lv cv0 cv1 cv2 fv
       have Px := Px.far3 nxv (.int .i64 (1)) (.int .i64 (a)) (.string (⟨#[]⟩))
       have Pz := Pz.far3 nzv (.int .i64 (1)) (.int .i64 (a)) (.string (⟨#[]⟩))
       have E := ext_set3 gv (.int .i64 (1)) (.int .i64 (a)) (.string (⟨#[]⟩)) E
       generalize (((W9.setCell ⟨W8.heap.size, 0, none⟩ (.int .i64 (1))).setCell ⟨W8.heap.size, 1, none⟩ (.int .i64 (a))).setCell ⟨W8.heap.size, 2, none⟩ (.string (⟨#[]⟩))) = G4 at *
       generalize W8.heap.size = bv at *)
    | (clear lx cx0 cx1 cx2 fx lz cz0 cz1 cz2 fz
       have gv : w.heap.size ≤ W9.heap.size := E.size
       have nxv := Nat.ne_of_lt Px.lt
       have nzv := Nat.ne_of_lt Pz.lt
       have Px := Px.alloc (.cells #[.int .i64 (1), .int .i64 (a), .string (⟨#[]⟩)] 23)
       have Pz := Pz.alloc (.cells #[.int .i64 (1), .int .i64 (a), .string (⟨#[]⟩)] 23)
       have Pv := Box.new W9 (1) (a) (⟨#[]⟩) 23
       have E := ext_alloc E (.cells #[.int .i64 (1), .int .i64 (a), .string (⟨#[]⟩)] 23)
       generalize (W9.alloc (.cells #[.int .i64 (1), .int .i64 (a), .string (⟨#[]⟩)] 23)) = G4 at *
       generalize W9.heap.size = bv at *)
  all_goals obtain ⟨lx, cx0, cx1, cx2, fx⟩ := id Px
  all_goals obtain ⟨lz, cz0, cz1, cz2, fz⟩ := id Pz
  all_goals obtain ⟨lv, cv0, cv1, cv2, fv⟩ := id Pv
  all_goals (
    have zv := fun (x : After G4) => (x.cell bv 0 lv).trans cv0
    have yv := fun (x : After G4) => (x.cell bv 1 lv).trans cv1
    have vv := fun (x : After G4) => (x.cell bv 2 lv).trans cv2
    have is := After.some G4
    refine wp_region_after (by kernel_rfl) (by kernel_rfl) ?_
    repeat (quiet_step ((first | (go_at_call 33; exact calls_after (n_any _ _)))))
    refine wpQuiet_nil ?_
    intro _ hw
    obtain ⟨⟨W10, hb⟩, rfl⟩ := hw
    clear is zv yv vv lx cx0 cx1 cx2 fx lz cz0 cz1 cz2 fz lv cv0 cv1 cv2 fv
    have Px := Px.ext hb
    have Pz := Pz.ext hb
    have Pv := Pv.ext hb
    have E := ext_trans E hb
    clear hb
    obtain ⟨lx, cx0, cx1, cx2, fx⟩ := id Px
    obtain ⟨lz, cz0, cz1, cz2, fz⟩ := id Pz
    obtain ⟨lv, cv0, cv1, cv2, fv⟩ := id Pv
    go_wp2_with fail
    refine (n_any _ _).mono ?_
    rintro e W11 ⟨rfl, hb⟩
    clear lx cx0 cx1 cx2 fx lz cz0 cz1 cz2 fz lv cv0 cv1 cv2 fv
    have Px := (Px).ext hb
    have Pz := (Pz).ext hb
    have Pv := (Pv).ext hb
    have E := ext_trans (E) hb
    clear hb
    obtain ⟨lx, cx0, cx1, cx2, fx⟩ := id Px
    obtain ⟨lz, cz0, cz1, cz2, fz⟩ := id Pz
    obtain ⟨lv, cv0, cv1, cv2, fv⟩ := id Pv
    go_wp2_with fail
    refine (neg_any (num a) _ Ha.out).mono ?_
    rintro e W12 ⟨rfl, hb⟩
    rw [H8.out]
    clear lx cx0 cx1 cx2 fx lz cz0 cz1 cz2 fz lv cv0 cv1 cv2 fv
    have Px := (Px).ext hb
    have Pz := (Pz).ext hb
    have Pv := (Pv).ext hb
    have E := ext_trans (E) hb
    clear hb
    obtain ⟨lx, cx0, cx1, cx2, fx⟩ := id Px
    obtain ⟨lz, cz0, cz1, cz2, fz⟩ := id Pz
    obtain ⟨lv, cv0, cv1, cv2, fv⟩ := id Pv
    have gu : w.heap.size ≤ W12.heap.size := E.size
    have nxu : W4.heap.size ≠ W12.heap.size := Nat.ne_of_lt Px.lt
    have nzu : W7.heap.size ≠ W12.heap.size := Nat.ne_of_lt Pz.lt
    have nvu : bv ≠ W12.heap.size := Nat.ne_of_lt Pv.lt
    go_wp2_with fail
    refine (neg_any (num c) _ Hc.out).mono ?_
    rintro e W13 ⟨rfl, hb⟩
    rw [H9.out]
    clear lx cx0 cx1 cx2 fx lz cz0 cz1 cz2 fz lv cv0 cv1 cv2 fv
    have Px := (((Px).alloc _)).ext hb
    have Pz := (((Pz).alloc _)).ext hb
    have Pv := (((Pv).alloc _)).ext hb
    have Pu := (Box.new _ (1) (c) (⟨#[]⟩) _).ext hb
    have E := ext_trans (ext_alloc (E) _) hb
    clear hb
    obtain ⟨lx, cx0, cx1, cx2, fx⟩ := id Px
    obtain ⟨lz, cz0, cz1, cz2, fz⟩ := id Pz
    obtain ⟨lv, cv0, cv1, cv2, fv⟩ := id Pv
    obtain ⟨lu, cu0, cu1, cu2, fu⟩ := id Pu
    have gt : w.heap.size ≤ W13.heap.size := E.size
    have nxt : W4.heap.size ≠ W13.heap.size := Nat.ne_of_lt Px.lt
    have nzt : W7.heap.size ≠ W13.heap.size := Nat.ne_of_lt Pz.lt
    have nvt : bv ≠ W13.heap.size := Nat.ne_of_lt Pv.lt
    have nut : W12.heap.size ≠ W13.heap.size := Nat.ne_of_lt Pu.lt
    go_wp2_with fail
    clear lx cx0 cx1 cx2 fx lz cz0 cz1 cz2 fz lv cv0 cv1 cv2 fv lu cu0 cu1 cu2 fu
    have Px := Px.alloc (.cells #[.int .i64 (1), .int .i64 (a), .string (⟨#[]⟩)] 23)
    have Pz := Pz.alloc (.cells #[.int .i64 (1), .int .i64 (a), .string (⟨#[]⟩)] 23)
    have Pv := Pv.alloc (.cells #[.int .i64 (1), .int .i64 (a), .string (⟨#[]⟩)] 23)
    have Pu := Pu.alloc (.cells #[.int .i64 (1), .int .i64 (a), .string (⟨#[]⟩)] 23)
    have Pt := Box.new W13 (1) (a) (⟨#[]⟩) 23
    have E := ext_alloc E (.cells #[.int .i64 (1), .int .i64 (a), .string (⟨#[]⟩)] 23)
    generalize (W13.alloc (.cells #[.int .i64 (1), .int .i64 (a), .string (⟨#[]⟩)] 23)) = G5 at *
    obtain ⟨lx, cx0, cx1, cx2, fx⟩ := id Px
    obtain ⟨lz, cz0, cz1, cz2, fz⟩ := id Pz
    obtain ⟨lv, cv0, cv1, cv2, fv⟩ := id Pv
    obtain ⟨lu, cu0, cu1, cu2, fu⟩ := id Pu
    obtain ⟨lt, ct0, ct1, ct2, ft⟩ := id Pt
    have zt := fun (x : After G5) => (x.cell W13.heap.size 0 lt).trans ct0
    have yt := fun (x : After G5) => (x.cell W13.heap.size 1 lt).trans ct1
    have vt := fun (x : After G5) => (x.cell W13.heap.size 2 lt).trans ct2
    have is := After.some G5
    refine wp_region_after (by kernel_rfl) (by kernel_rfl) ?_
    repeat (quiet_step ((first | (go_at_call 33; exact calls_after (n_any _ _)))))
    refine wpQuiet_nil ?_
    intro _ hw
    obtain ⟨⟨W14, hb⟩, rfl⟩ := hw
    clear is zt yt vt lx cx0 cx1 cx2 fx lz cz0 cz1 cz2 fz lv cv0 cv1 cv2 fv lu cu0 cu1 cu2 fu lt ct0 ct1 ct2 ft
    have Px := Px.ext hb
    have Pz := Pz.ext hb
    have Pv := Pv.ext hb
    have Pu := Pu.ext hb
    have Pt := Pt.ext hb
    have E := ext_trans E hb
    clear hb
    obtain ⟨lx, cx0, cx1, cx2, fx⟩ := id Px
    obtain ⟨lz, cz0, cz1, cz2, fz⟩ := id Pz
    obtain ⟨lv, cv0, cv1, cv2, fv⟩ := id Pv
    obtain ⟨lu, cu0, cu1, cu2, fu⟩ := id Pu
    obtain ⟨lt, ct0, ct1, ct2, ft⟩ := id Pt
    all_goals go_wp2_with fail
    all_goals go_ret
    all_goals refine ⟨by first | rfl | (simp; done) | (simp; omega), ?_⟩
    all_goals (repeat (first | exact ext_refl _ | assumption | (refine ext_alloc ?_ _) | (refine ext_drewN ?_ _) | refine ext_drew ?_ | (refine ext_set (by first | (simp; done) | (simp; omega)) _ ?_) | (refine ext_trans ?_ (by assumption)))))

set_option maxHeartbeats 8000000 in
theorem back_over_fit_least (b m : Int) (w : World) (ha : inR (-9223372036854775808) = true) (hb : inR b = true) (h4 : arith 4 (num (-9223372036854775808)) (num b) = (nul, 3)) (hm : inR m = true) (hb0 : (b != 0) = true) (h6 : arith 6 (num (-9223372036854775808)) (num b) = (num m, 0)) (h7 : arith 7 (num m) (num b) = (num (-9223372036854775808), 0)) (h8 : arith 5 (num 0) (num (-9223372036854775808)) = (nul, 3)) (h9 : arith 5 (num 0) nul = (nul, 0)) : Calls Try.prog 6 #[.int .i64 (-9223372036854775808), .int .i64 b] w fun e w' => e = .returned (.bool true) ∧ Below w.heap.size w w' := by
  have Ha := Lib.hid ha
  have Hb := Lib.hid hb
  have H4 := Lib.hid h4
  have H6 := Lib.hid h6
  have Hm := Lib.hid hm
  have H7 := Lib.hid h7
  have H8 := Lib.hid h8
  have H9 := Lib.hid h9
  clear ha hb h4 h6 hm h7 h8 h9
  have E := ext_refl w
  go_enter Try.func6, Try.ntmps6
  go_wp2_with fail
  refine (examples_any _).mono ?_
  rintro e W1 ⟨rfl, hb⟩
  have E := ext_trans E hb
  clear hb
  go_wp2_with fail
  refine (n_any _ _).mono ?_
  rintro e W2 ⟨rfl, hb⟩
  have E := ext_trans E hb
  clear hb
  go_wp2_with fail
  refine (n_any _ _).mono ?_
  rintro e W3 ⟨rfl, hb⟩
  have E := ext_trans E hb
  clear hb
  go_wp2_with fail
  refine (add_any (num (-9223372036854775808)) (num b) _ Ha.out Hb.out).mono ?_
  rintro e W4 ⟨rfl, hb⟩
  rw [H4.out]
  have E := ext_trans E hb
  clear hb
  have gx : w.heap.size ≤ W4.heap.size := E.size
  go_wp2_with fail
  refine (n_any _ _).mono ?_
  rintro e W5 ⟨rfl, hb⟩
  have Px := (Box.new _ (0) (0) (⟨#[]⟩) _).ext hb
  have E := ext_trans (ext_alloc (E) _) hb
  clear hb
  obtain ⟨lx, cx0, cx1, cx2, fx⟩ := id Px
  go_wp2_with fail
  refine (n_any _ _).mono ?_
  rintro e W6 ⟨rfl, hb⟩
  clear lx cx0 cx1 cx2 fx
  have Px := (Px).ext hb
  have E := ext_trans (E) hb
  clear hb
  obtain ⟨lx, cx0, cx1, cx2, fx⟩ := id Px
  go_wp2_with fail
  refine (mul_any (num (-9223372036854775808)) (num b) _ Ha.out Hb.out).mono ?_
  rintro e W7 ⟨rfl, hb⟩
  rw [H6.out]
  clear lx cx0 cx1 cx2 fx
  have Px := (Px).ext hb
  have E := ext_trans (E) hb
  clear hb
  obtain ⟨lx, cx0, cx1, cx2, fx⟩ := id Px
  have gz : w.heap.size ≤ W7.heap.size := E.size
  have nxz : W4.heap.size ≠ W7.heap.size := Nat.ne_of_lt Px.lt
  go_wp2_with fail
  clear lx cx0 cx1 cx2 fx
  have Px := Px.alloc (.cells #[.int .i64 (1), .int .i64 (m), .string (⟨#[]⟩)] 23)
  have Pz := Box.new W7 (1) (m) (⟨#[]⟩) 23
  have E := ext_alloc E (.cells #[.int .i64 (1), .int .i64 (m), .string (⟨#[]⟩)] 23)
  generalize (W7.alloc (.cells #[.int .i64 (1), .int .i64 (m), .string (⟨#[]⟩)] 23)) = G3 at *
  obtain ⟨lx, cx0, cx1, cx2, fx⟩ := id Px
  obtain ⟨lz, cz0, cz1, cz2, fz⟩ := id Pz
  go_region_held3 (fun w' => w'.cell? ⟨W7.heap.size, 0, none⟩ = some (.int .i64 (1)) ∧ w'.cell? ⟨W7.heap.size, 1, none⟩ = some (.int .i64 (m)) ∧ w'.cell? ⟨W7.heap.size, 2, none⟩ = some (.string (⟨#[]⟩)))
    (go_keep) (first | (go_at_call 33; go_must (refine (n_any _ _).mono ?_; rintro e W8 ⟨rfl, hb⟩; (first | (have Px := Px.drew.ext hb; have Pz := Pz.drew.ext hb; have E := ext_trans (ext_drew (E)) hb) | (have Pv := (Box.new G3 0 0 ⟨#[]⟩ 23).drew.ext hb; have gv : w.heap.size ≤ G3.heap.size := E.size; have nxv := Nat.ne_of_lt Px.lt; have mxv := Ne.symm nxv; have nzv := Nat.ne_of_lt Pz.lt; have mzv := Ne.symm nzv; have Px := (Px.alloc _).drew.ext hb; have Pz := (Pz.alloc _).drew.ext hb; have E := ext_trans (ext_drew (ext_alloc E _)) hb)); clear hb; obtain ⟨lx, cx0, cx1, cx2, fx⟩ := id Px; obtain ⟨lz, cz0, cz1, cz2, fz⟩ := id Pz; (try obtain ⟨lv, cv0, cv1, cv2, fv⟩ := id Pv))) | (go_at_call 17; go_must (refine (div_any (num m) (num b) _ Hm.out Hb.out).mono ?_; rintro e W9 ⟨rfl, hb⟩; rw [H7.out]; (first | (have Pv := Pv.ext hb; have Px := Px.ext hb; have Pz := Pz.ext hb; have E := ext_trans (E) hb) | (have Px := Px.ext hb; have Pz := Pz.ext hb; have E := ext_trans (E) hb) | (have Pv := (Box.new W8 0 0 ⟨#[]⟩ 23).ext hb; have gv : w.heap.size ≤ W8.heap.size := E.size; have nxv := Nat.ne_of_lt Px.lt; have mxv := Ne.symm nxv; have nzv := Nat.ne_of_lt Pz.lt; have mzv := Ne.symm nzv; have Px := (Px.alloc _).ext hb; have Pz := (Pz.alloc _).ext hb; have E := ext_trans (ext_alloc E _) hb)); clear hb; obtain ⟨lx, cx0, cx1, cx2, fx⟩ := id Px; obtain ⟨lz, cz0, cz1, cz2, fz⟩ := id Pz; (try obtain ⟨lv, cv0, cv1, cv2, fv⟩ := id Pv))))
  all_goals go_wp2_with fail
  all_goals first
    | (have Pv : Box _ G3.heap.size _ := Pv.set (1) ((-9223372036854775808)) (⟨#[]⟩)
       clear lx cx0 cx1 cx2 fx lz cz0 cz1 cz2 fz lv cv0 cv1 cv2 fv
       have Px := Px.far3 nxv (.int .i64 (1)) (.int .i64 ((-9223372036854775808))) (.string (⟨#[]⟩))
       have Pz := Pz.far3 nzv (.int .i64 (1)) (.int .i64 ((-9223372036854775808))) (.string (⟨#[]⟩))
       have E := ext_set3 gv (.int .i64 (1)) (.int .i64 ((-9223372036854775808))) (.string (⟨#[]⟩)) E
       generalize (((W9.setCell ⟨G3.heap.size, 0, none⟩ (.int .i64 (1))).setCell ⟨G3.heap.size, 1, none⟩ (.int .i64 ((-9223372036854775808)))).setCell ⟨G3.heap.size, 2, none⟩ (.string (⟨#[]⟩))) = G4 at *
       generalize G3.heap.size = bv at *)
    | (have Pv : Box _ W8.heap.size _ := Pv.set (1) ((-9223372036854775808)) (⟨#[]⟩)
       clear lx cx0 cx1 cx2 fx lz cz0 cz1 cz2 fz lv cv0 cv1 cv2 fv
       have Px := Px.far3 nxv (.int .i64 (1)) (.int .i64 ((-9223372036854775808))) (.string (⟨#[]⟩))
       have Pz := Pz.far3 nzv (.int .i64 (1)) (.int .i64 ((-9223372036854775808))) (.string (⟨#[]⟩))
       have E := ext_set3 gv (.int .i64 (1)) (.int .i64 ((-9223372036854775808))) (.string (⟨#[]⟩)) E
       generalize (((W9.setCell ⟨W8.heap.size, 0, none⟩ (.int .i64 (1))).setCell ⟨W8.heap.size, 1, none⟩ (.int .i64 ((-9223372036854775808)))).setCell ⟨W8.heap.size, 2, none⟩ (.string (⟨#[]⟩))) = G4 at *
       generalize W8.heap.size = bv at *)
    | (clear lx cx0 cx1 cx2 fx lz cz0 cz1 cz2 fz
       have gv : w.heap.size ≤ W9.heap.size := E.size
       have nxv := Nat.ne_of_lt Px.lt
       have nzv := Nat.ne_of_lt Pz.lt
       have Px := Px.alloc (.cells #[.int .i64 (1), .int .i64 ((-9223372036854775808)), .string (⟨#[]⟩)] 23)
       have Pz := Pz.alloc (.cells #[.int .i64 (1), .int .i64 ((-9223372036854775808)), .string (⟨#[]⟩)] 23)
       have Pv := Box.new W9 (1) ((-9223372036854775808)) (⟨#[]⟩) 23
       have E := ext_alloc E (.cells #[.int .i64 (1), .int .i64 ((-9223372036854775808)), .string (⟨#[]⟩)] 23)
       generalize (W9.alloc (.cells #[.int .i64 (1), .int .i64 ((-9223372036854775808)), .string (⟨#[]⟩)] 23)) = G4 at *
       generalize W9.heap.size = bv at *)
  all_goals obtain ⟨lx, cx0, cx1, cx2, fx⟩ := id Px
  all_goals obtain ⟨lz, cz0, cz1, cz2, fz⟩ := id Pz
  all_goals obtain ⟨lv, cv0, cv1, cv2, fv⟩ := id Pv
  all_goals (
    have zv := fun (x : After G4) => (x.cell bv 0 lv).trans cv0
    have yv := fun (x : After G4) => (x.cell bv 1 lv).trans cv1
    have vv := fun (x : After G4) => (x.cell bv 2 lv).trans cv2
    have is := After.some G4
    refine wp_region_after (by kernel_rfl) (by kernel_rfl) ?_
    repeat (quiet_step ((first | (go_at_call 33; exact calls_after (n_any _ _)))))
    refine wpQuiet_nil ?_
    intro _ hw
    obtain ⟨⟨W10, hb⟩, rfl⟩ := hw
    clear is zv yv vv lx cx0 cx1 cx2 fx lz cz0 cz1 cz2 fz lv cv0 cv1 cv2 fv
    have Px := Px.ext hb
    have Pz := Pz.ext hb
    have Pv := Pv.ext hb
    have E := ext_trans E hb
    clear hb
    obtain ⟨lx, cx0, cx1, cx2, fx⟩ := id Px
    obtain ⟨lz, cz0, cz1, cz2, fz⟩ := id Pz
    obtain ⟨lv, cv0, cv1, cv2, fv⟩ := id Pv
    go_wp2_with fail
    refine (n_any _ _).mono ?_
    rintro e W11 ⟨rfl, hb⟩
    clear lx cx0 cx1 cx2 fx lz cz0 cz1 cz2 fz lv cv0 cv1 cv2 fv
    have Px := (Px).ext hb
    have Pz := (Pz).ext hb
    have Pv := (Pv).ext hb
    have E := ext_trans (E) hb
    clear hb
    obtain ⟨lx, cx0, cx1, cx2, fx⟩ := id Px
    obtain ⟨lz, cz0, cz1, cz2, fz⟩ := id Pz
    obtain ⟨lv, cv0, cv1, cv2, fv⟩ := id Pv
    go_wp2_with fail
    refine (neg_any (num (-9223372036854775808)) _ Ha.out).mono ?_
    rintro e W12 ⟨rfl, hb⟩
    rw [H8.out]
    clear lx cx0 cx1 cx2 fx lz cz0 cz1 cz2 fz lv cv0 cv1 cv2 fv
    have Px := (Px).ext hb
    have Pz := (Pz).ext hb
    have Pv := (Pv).ext hb
    have E := ext_trans (E) hb
    clear hb
    obtain ⟨lx, cx0, cx1, cx2, fx⟩ := id Px
    obtain ⟨lz, cz0, cz1, cz2, fz⟩ := id Pz
    obtain ⟨lv, cv0, cv1, cv2, fv⟩ := id Pv
    have gu : w.heap.size ≤ W12.heap.size := E.size
    have nxu : W4.heap.size ≠ W12.heap.size := Nat.ne_of_lt Px.lt
    have nzu : W7.heap.size ≠ W12.heap.size := Nat.ne_of_lt Pz.lt
    have nvu : bv ≠ W12.heap.size := Nat.ne_of_lt Pv.lt
    go_wp2_with fail
    refine (neg_any nul _ (by decide)).mono ?_
    rintro e W13 ⟨rfl, hb⟩
    rw [H9.out]
    clear lx cx0 cx1 cx2 fx lz cz0 cz1 cz2 fz lv cv0 cv1 cv2 fv
    have Px := (((Px).alloc _)).ext hb
    have Pz := (((Pz).alloc _)).ext hb
    have Pv := (((Pv).alloc _)).ext hb
    have Pu := (Box.new _ (0) (0) (⟨#[]⟩) _).ext hb
    have E := ext_trans (ext_alloc (E) _) hb
    clear hb
    obtain ⟨lx, cx0, cx1, cx2, fx⟩ := id Px
    obtain ⟨lz, cz0, cz1, cz2, fz⟩ := id Pz
    obtain ⟨lv, cv0, cv1, cv2, fv⟩ := id Pv
    obtain ⟨lu, cu0, cu1, cu2, fu⟩ := id Pu
    have gt : w.heap.size ≤ W13.heap.size := E.size
    have nxt : W4.heap.size ≠ W13.heap.size := Nat.ne_of_lt Px.lt
    have nzt : W7.heap.size ≠ W13.heap.size := Nat.ne_of_lt Pz.lt
    have nvt : bv ≠ W13.heap.size := Nat.ne_of_lt Pv.lt
    have nut : W12.heap.size ≠ W13.heap.size := Nat.ne_of_lt Pu.lt
    go_wp2_with fail
    clear lx cx0 cx1 cx2 fx lz cz0 cz1 cz2 fz lv cv0 cv1 cv2 fv lu cu0 cu1 cu2 fu
    have Px := Px.alloc (.cells #[.int .i64 (0), .int .i64 (0), .string (⟨#[]⟩)] 23)
    have Pz := Pz.alloc (.cells #[.int .i64 (0), .int .i64 (0), .string (⟨#[]⟩)] 23)
    have Pv := Pv.alloc (.cells #[.int .i64 (0), .int .i64 (0), .string (⟨#[]⟩)] 23)
    have Pu := Pu.alloc (.cells #[.int .i64 (0), .int .i64 (0), .string (⟨#[]⟩)] 23)
    have Pt := Box.new W13 (0) (0) (⟨#[]⟩) 23
    have E := ext_alloc E (.cells #[.int .i64 (0), .int .i64 (0), .string (⟨#[]⟩)] 23)
    generalize (W13.alloc (.cells #[.int .i64 (0), .int .i64 (0), .string (⟨#[]⟩)] 23)) = G5 at *
    obtain ⟨lx, cx0, cx1, cx2, fx⟩ := id Px
    obtain ⟨lz, cz0, cz1, cz2, fz⟩ := id Pz
    obtain ⟨lv, cv0, cv1, cv2, fv⟩ := id Pv
    obtain ⟨lu, cu0, cu1, cu2, fu⟩ := id Pu
    obtain ⟨lt, ct0, ct1, ct2, ft⟩ := id Pt
    go_quiet (fail)
    go_wp2_with fail
    all_goals go_ret
    all_goals refine ⟨by first | rfl | (simp; done) | (simp; omega), ?_⟩
    all_goals (repeat (first | exact ext_refl _ | assumption | (refine ext_alloc ?_ _) | (refine ext_drewN ?_ _) | refine ext_drew ?_ | (refine ext_set (by first | (simp; done) | (simp; omega)) _ ?_) | (refine ext_trans ?_ (by assumption)))))

set_option maxHeartbeats 8000000 in
theorem back_over_over_fit (a b c : Int) (w : World) (ha : inR a = true) (hb : inR b = true) (h4 : arith 4 (num a) (num b) = (nul, 3)) (h6 : arith 6 (num a) (num b) = (nul, 3)) (hc : inR c = true) (h8 : arith 5 (num 0) (num a) = (num c, 0)) (h9 : arith 5 (num 0) (num c) = (num a, 0)) : Calls Try.prog 6 #[.int .i64 a, .int .i64 b] w fun e w' => e = .returned (.bool true) ∧ Below w.heap.size w w' := by
  have Ha := Lib.hid ha
  have Hb := Lib.hid hb
  have H4 := Lib.hid h4
  have H6 := Lib.hid h6
  have Hc := Lib.hid hc
  have H8 := Lib.hid h8
  have H9 := Lib.hid h9
  clear ha hb h4 h6 hc h8 h9
  have E := ext_refl w
  go_enter Try.func6, Try.ntmps6
  go_wp2_with fail
  refine (examples_any _).mono ?_
  rintro e W1 ⟨rfl, hb⟩
  have E := ext_trans E hb
  clear hb
  go_wp2_with fail
  refine (n_any _ _).mono ?_
  rintro e W2 ⟨rfl, hb⟩
  have E := ext_trans E hb
  clear hb
  go_wp2_with fail
  refine (n_any _ _).mono ?_
  rintro e W3 ⟨rfl, hb⟩
  have E := ext_trans E hb
  clear hb
  go_wp2_with fail
  refine (add_any (num a) (num b) _ Ha.out Hb.out).mono ?_
  rintro e W4 ⟨rfl, hb⟩
  rw [H4.out]
  have E := ext_trans E hb
  clear hb
  have gx : w.heap.size ≤ W4.heap.size := E.size
  go_wp2_with fail
  refine (n_any _ _).mono ?_
  rintro e W5 ⟨rfl, hb⟩
  have Px := (Box.new _ (0) (0) (⟨#[]⟩) _).ext hb
  have E := ext_trans (ext_alloc (E) _) hb
  clear hb
  obtain ⟨lx, cx0, cx1, cx2, fx⟩ := id Px
  go_wp2_with fail
  refine (n_any _ _).mono ?_
  rintro e W6 ⟨rfl, hb⟩
  clear lx cx0 cx1 cx2 fx
  have Px := (Px).ext hb
  have E := ext_trans (E) hb
  clear hb
  obtain ⟨lx, cx0, cx1, cx2, fx⟩ := id Px
  go_wp2_with fail
  refine (mul_any (num a) (num b) _ Ha.out Hb.out).mono ?_
  rintro e W7 ⟨rfl, hb⟩
  rw [H6.out]
  clear lx cx0 cx1 cx2 fx
  have Px := (Px).ext hb
  have E := ext_trans (E) hb
  clear hb
  obtain ⟨lx, cx0, cx1, cx2, fx⟩ := id Px
  have gz : w.heap.size ≤ W7.heap.size := E.size
  have nxz : W4.heap.size ≠ W7.heap.size := Nat.ne_of_lt Px.lt
  go_wp2_with fail
  refine (n_any _ _).mono ?_
  rintro e W8 ⟨rfl, hb⟩
  clear lx cx0 cx1 cx2 fx
  have Px := (((Px).alloc _)).ext hb
  have Pz := (Box.new _ (0) (0) (⟨#[]⟩) _).ext hb
  have E := ext_trans (ext_alloc (E) _) hb
  clear hb
  obtain ⟨lx, cx0, cx1, cx2, fx⟩ := id Px
  obtain ⟨lz, cz0, cz1, cz2, fz⟩ := id Pz
  go_wp2_with fail
  refine (neg_any (num a) _ Ha.out).mono ?_
  rintro e W9 ⟨rfl, hb⟩
  rw [H8.out]
  clear lx cx0 cx1 cx2 fx lz cz0 cz1 cz2 fz
  have Px := (Px).ext hb
  have Pz := (Pz).ext hb
  have E := ext_trans (E) hb
  clear hb
  obtain ⟨lx, cx0, cx1, cx2, fx⟩ := id Px
  obtain ⟨lz, cz0, cz1, cz2, fz⟩ := id Pz
  have gu : w.heap.size ≤ W9.heap.size := E.size
  have nxu : W4.heap.size ≠ W9.heap.size := Nat.ne_of_lt Px.lt
  have nzu : W7.heap.size ≠ W9.heap.size := Nat.ne_of_lt Pz.lt
  go_wp2_with fail
  refine (neg_any (num c) _ Hc.out).mono ?_
  rintro e W10 ⟨rfl, hb⟩
  rw [H9.out]
  clear lx cx0 cx1 cx2 fx lz cz0 cz1 cz2 fz
  have Px := (((Px).alloc _)).ext hb
  have Pz := (((Pz).alloc _)).ext hb
  have Pu := (Box.new _ (1) (c) (⟨#[]⟩) _).ext hb
  have E := ext_trans (ext_alloc (E) _) hb
  clear hb
  obtain ⟨lx, cx0, cx1, cx2, fx⟩ := id Px
  obtain ⟨lz, cz0, cz1, cz2, fz⟩ := id Pz
  obtain ⟨lu, cu0, cu1, cu2, fu⟩ := id Pu
  have gt : w.heap.size ≤ W10.heap.size := E.size
  have nxt : W4.heap.size ≠ W10.heap.size := Nat.ne_of_lt Px.lt
  have nzt : W7.heap.size ≠ W10.heap.size := Nat.ne_of_lt Pz.lt
  have nut : W9.heap.size ≠ W10.heap.size := Nat.ne_of_lt Pu.lt
  go_wp2_with fail
  clear lx cx0 cx1 cx2 fx lz cz0 cz1 cz2 fz lu cu0 cu1 cu2 fu
  have Px := Px.alloc (.cells #[.int .i64 (1), .int .i64 (a), .string (⟨#[]⟩)] 23)
  have Pz := Pz.alloc (.cells #[.int .i64 (1), .int .i64 (a), .string (⟨#[]⟩)] 23)
  have Pu := Pu.alloc (.cells #[.int .i64 (1), .int .i64 (a), .string (⟨#[]⟩)] 23)
  have Pt := Box.new W10 (1) (a) (⟨#[]⟩) 23
  have E := ext_alloc E (.cells #[.int .i64 (1), .int .i64 (a), .string (⟨#[]⟩)] 23)
  generalize (W10.alloc (.cells #[.int .i64 (1), .int .i64 (a), .string (⟨#[]⟩)] 23)) = G5 at *
  obtain ⟨lx, cx0, cx1, cx2, fx⟩ := id Px
  obtain ⟨lz, cz0, cz1, cz2, fz⟩ := id Pz
  obtain ⟨lu, cu0, cu1, cu2, fu⟩ := id Pu
  obtain ⟨lt, ct0, ct1, ct2, ft⟩ := id Pt
  have zt := fun (x : After G5) => (x.cell W10.heap.size 0 lt).trans ct0
  have yt := fun (x : After G5) => (x.cell W10.heap.size 1 lt).trans ct1
  have vt := fun (x : After G5) => (x.cell W10.heap.size 2 lt).trans ct2
  have is := After.some G5
  refine wp_region_after (by kernel_rfl) (by kernel_rfl) ?_
  repeat (quiet_step ((first | (go_at_call 33; exact calls_after (n_any _ _)))))
  refine wpQuiet_nil ?_
  intro _ hw
  obtain ⟨⟨W11, hb⟩, rfl⟩ := hw
  clear is zt yt vt lx cx0 cx1 cx2 fx lz cz0 cz1 cz2 fz lu cu0 cu1 cu2 fu lt ct0 ct1 ct2 ft
  have Px := Px.ext hb
  have Pz := Pz.ext hb
  have Pu := Pu.ext hb
  have Pt := Pt.ext hb
  have E := ext_trans E hb
  clear hb
  obtain ⟨lx, cx0, cx1, cx2, fx⟩ := id Px
  obtain ⟨lz, cz0, cz1, cz2, fz⟩ := id Pz
  obtain ⟨lu, cu0, cu1, cu2, fu⟩ := id Pu
  obtain ⟨lt, ct0, ct1, ct2, ft⟩ := id Pt
  all_goals go_wp2_with fail
  all_goals go_ret
  all_goals refine ⟨by first | rfl | (simp; done) | (simp; omega), ?_⟩
  all_goals (repeat (first | exact ext_refl _ | assumption | (refine ext_alloc ?_ _) | (refine ext_drewN ?_ _) | refine ext_drew ?_ | (refine ext_set (by first | (simp; done) | (simp; omega)) _ ?_) | (refine ext_trans ?_ (by assumption))))

set_option maxHeartbeats 8000000 in
theorem back_over_over_least (b : Int) (w : World) (ha : inR (-9223372036854775808) = true) (hb : inR b = true) (h4 : arith 4 (num (-9223372036854775808)) (num b) = (nul, 3)) (h6 : arith 6 (num (-9223372036854775808)) (num b) = (nul, 3)) (h8 : arith 5 (num 0) (num (-9223372036854775808)) = (nul, 3)) (h9 : arith 5 (num 0) nul = (nul, 0)) : Calls Try.prog 6 #[.int .i64 (-9223372036854775808), .int .i64 b] w fun e w' => e = .returned (.bool true) ∧ Below w.heap.size w w' := by
  have Ha := Lib.hid ha
  have Hb := Lib.hid hb
  have H4 := Lib.hid h4
  have H6 := Lib.hid h6
  have H8 := Lib.hid h8
  have H9 := Lib.hid h9
  clear ha hb h4 h6 h8 h9
  have E := ext_refl w
  go_enter Try.func6, Try.ntmps6
  go_wp2_with fail
  refine (examples_any _).mono ?_
  rintro e W1 ⟨rfl, hb⟩
  have E := ext_trans E hb
  clear hb
  go_wp2_with fail
  refine (n_any _ _).mono ?_
  rintro e W2 ⟨rfl, hb⟩
  have E := ext_trans E hb
  clear hb
  go_wp2_with fail
  refine (n_any _ _).mono ?_
  rintro e W3 ⟨rfl, hb⟩
  have E := ext_trans E hb
  clear hb
  go_wp2_with fail
  refine (add_any (num (-9223372036854775808)) (num b) _ Ha.out Hb.out).mono ?_
  rintro e W4 ⟨rfl, hb⟩
  rw [H4.out]
  have E := ext_trans E hb
  clear hb
  have gx : w.heap.size ≤ W4.heap.size := E.size
  go_wp2_with fail
  refine (n_any _ _).mono ?_
  rintro e W5 ⟨rfl, hb⟩
  have Px := (Box.new _ (0) (0) (⟨#[]⟩) _).ext hb
  have E := ext_trans (ext_alloc (E) _) hb
  clear hb
  obtain ⟨lx, cx0, cx1, cx2, fx⟩ := id Px
  go_wp2_with fail
  refine (n_any _ _).mono ?_
  rintro e W6 ⟨rfl, hb⟩
  clear lx cx0 cx1 cx2 fx
  have Px := (Px).ext hb
  have E := ext_trans (E) hb
  clear hb
  obtain ⟨lx, cx0, cx1, cx2, fx⟩ := id Px
  go_wp2_with fail
  refine (mul_any (num (-9223372036854775808)) (num b) _ Ha.out Hb.out).mono ?_
  rintro e W7 ⟨rfl, hb⟩
  rw [H6.out]
  clear lx cx0 cx1 cx2 fx
  have Px := (Px).ext hb
  have E := ext_trans (E) hb
  clear hb
  obtain ⟨lx, cx0, cx1, cx2, fx⟩ := id Px
  have gz : w.heap.size ≤ W7.heap.size := E.size
  have nxz : W4.heap.size ≠ W7.heap.size := Nat.ne_of_lt Px.lt
  go_wp2_with fail
  refine (n_any _ _).mono ?_
  rintro e W8 ⟨rfl, hb⟩
  clear lx cx0 cx1 cx2 fx
  have Px := (((Px).alloc _)).ext hb
  have Pz := (Box.new _ (0) (0) (⟨#[]⟩) _).ext hb
  have E := ext_trans (ext_alloc (E) _) hb
  clear hb
  obtain ⟨lx, cx0, cx1, cx2, fx⟩ := id Px
  obtain ⟨lz, cz0, cz1, cz2, fz⟩ := id Pz
  go_wp2_with fail
  refine (neg_any (num (-9223372036854775808)) _ Ha.out).mono ?_
  rintro e W9 ⟨rfl, hb⟩
  rw [H8.out]
  clear lx cx0 cx1 cx2 fx lz cz0 cz1 cz2 fz
  have Px := (Px).ext hb
  have Pz := (Pz).ext hb
  have E := ext_trans (E) hb
  clear hb
  obtain ⟨lx, cx0, cx1, cx2, fx⟩ := id Px
  obtain ⟨lz, cz0, cz1, cz2, fz⟩ := id Pz
  have gu : w.heap.size ≤ W9.heap.size := E.size
  have nxu : W4.heap.size ≠ W9.heap.size := Nat.ne_of_lt Px.lt
  have nzu : W7.heap.size ≠ W9.heap.size := Nat.ne_of_lt Pz.lt
  go_wp2_with fail
  refine (neg_any nul _ (by decide)).mono ?_
  rintro e W10 ⟨rfl, hb⟩
  rw [H9.out]
  clear lx cx0 cx1 cx2 fx lz cz0 cz1 cz2 fz
  have Px := (((Px).alloc _)).ext hb
  have Pz := (((Pz).alloc _)).ext hb
  have Pu := (Box.new _ (0) (0) (⟨#[]⟩) _).ext hb
  have E := ext_trans (ext_alloc (E) _) hb
  clear hb
  obtain ⟨lx, cx0, cx1, cx2, fx⟩ := id Px
  obtain ⟨lz, cz0, cz1, cz2, fz⟩ := id Pz
  obtain ⟨lu, cu0, cu1, cu2, fu⟩ := id Pu
  have gt : w.heap.size ≤ W10.heap.size := E.size
  have nxt : W4.heap.size ≠ W10.heap.size := Nat.ne_of_lt Px.lt
  have nzt : W7.heap.size ≠ W10.heap.size := Nat.ne_of_lt Pz.lt
  have nut : W9.heap.size ≠ W10.heap.size := Nat.ne_of_lt Pu.lt
  go_wp2_with fail
  clear lx cx0 cx1 cx2 fx lz cz0 cz1 cz2 fz lu cu0 cu1 cu2 fu
  have Px := Px.alloc (.cells #[.int .i64 (0), .int .i64 (0), .string (⟨#[]⟩)] 23)
  have Pz := Pz.alloc (.cells #[.int .i64 (0), .int .i64 (0), .string (⟨#[]⟩)] 23)
  have Pu := Pu.alloc (.cells #[.int .i64 (0), .int .i64 (0), .string (⟨#[]⟩)] 23)
  have Pt := Box.new W10 (0) (0) (⟨#[]⟩) 23
  have E := ext_alloc E (.cells #[.int .i64 (0), .int .i64 (0), .string (⟨#[]⟩)] 23)
  generalize (W10.alloc (.cells #[.int .i64 (0), .int .i64 (0), .string (⟨#[]⟩)] 23)) = G5 at *
  obtain ⟨lx, cx0, cx1, cx2, fx⟩ := id Px
  obtain ⟨lz, cz0, cz1, cz2, fz⟩ := id Pz
  obtain ⟨lu, cu0, cu1, cu2, fu⟩ := id Pu
  obtain ⟨lt, ct0, ct1, ct2, ft⟩ := id Pt
  go_quiet (fail)
  go_wp2_with fail
  all_goals go_ret
  all_goals refine ⟨by first | rfl | (simp; done) | (simp; omega), ?_⟩
  all_goals (repeat (first | exact ext_refl _ | assumption | (refine ext_alloc ?_ _) | (refine ext_drewN ?_ _) | refine ext_drew ?_ | (refine ext_set (by first | (simp; done) | (simp; omega)) _ ?_) | (refine ext_trans ?_ (by assumption))))

end Go.Proofs.Ytklbomfcejgbmaa
