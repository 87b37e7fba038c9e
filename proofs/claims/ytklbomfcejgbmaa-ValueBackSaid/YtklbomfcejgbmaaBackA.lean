/- ValueBack: the sum fits. -/
import Derived.Test.YtklbomfcejgbmaaValC
import Derived.Test.YtklbomfcejgbmaaValE
import Derived.Test.YtklbomfcejgbmaaBox
import Derived.Test.YtklbomfcejgbmaaFrame
import Derived.Test.YtklbomfcejgbmaaAfter
namespace Go.Proofs.Ytklbomfcejgbmaa
open Go.ChangeShapes Go.WideShapes Go.ChangeAt Go.RowKit Go.Joins

set_option maxHeartbeats 8000000 in
theorem back_fit_fit_fit (a b s m c : Int) (w : World) (ha : inR a = true) (hb : inR b = true) (hs : inR s = true) (h4 : arith 4 (num a) (num b) = (num s, 0)) (h5 : arith 5 (num s) (num b) = (num a, 0)) (hm : inR m = true) (hb0 : (b != 0) = true) (h6 : arith 6 (num a) (num b) = (num m, 0)) (h7 : arith 7 (num m) (num b) = (num a, 0)) (hc : inR c = true) (h8 : arith 5 (num 0) (num a) = (num c, 0)) (h9 : arith 5 (num 0) (num c) = (num a, 0)) : Calls Try.prog 6 #[.int .i64 a, .int .i64 b] w fun e w' => e = .returned (.bool true) ∧ Below w.heap.size w w' := by
  have Ha := Lib.hid ha
  have Hb := Lib.hid hb
  have H4 := Lib.hid h4
  have Hs := Lib.hid hs
  have H5 := Lib.hid h5
  have H6 := Lib.hid h6
  have Hm := Lib.hid hm
  have H7 := Lib.hid h7
  have Hc := Lib.hid hc
  have H8 := Lib.hid h8
  have H9 := Lib.hid h9
  clear ha hb h4 hs h5 h6 hm h7 hc h8 h9
  have E := ext_refl w
  go_enter Try.func6, Try.ntmps6
  go_wp2_with fail
  refine (examples_any _).mono ?_
  rintro e W1 ⟨rfl, hb⟩
  have E := ext_trans E hb
  clear hb
  go_wp2_with fail
  refine (n_any _ _).mono ?_
  rintro e W2 ⟨rfl, hb⟩
  have E := ext_trans E hb
  clear hb
  go_wp2_with fail
  refine (n_any _ _).mono ?_
  rintro e W3 ⟨rfl, hb⟩
  have E := ext_trans E hb
  clear hb
  go_wp2_with fail
  refine (add_any (num a) (num b) _ Ha.out Hb.out).mono ?_
  rintro e W4 ⟨rfl, hb⟩
  rw [H4.out]
  have E := ext_trans E hb
  clear hb
  have gx : w.heap.size ≤ W4.heap.size := E.size
  go_wp2_with fail
  have Px := Box.new W4 (1) (s) (⟨#[]⟩) 23
  have E := ext_alloc E (.cells #[.int .i64 (1), .int .i64 (s), .string (⟨#[]⟩)] 23)
  generalize (W4.alloc (.cells #[.int .i64 (1), .int .i64 (s), .string (⟨#[]⟩)] 23)) = G1 at *
  obtain ⟨lx, cx0, cx1, cx2, fx⟩ := id Px
  go_region_held3 (fun w' => w'.cell? ⟨W4.heap.size, 0, none⟩ = some (.int .i64 (1)) ∧ w'.cell? ⟨W4.heap.size, 1, none⟩ = some (.int .i64 (s)) ∧ w'.cell? ⟨W4.heap.size, 2, none⟩ = some (.string (⟨#[]⟩)))
    (go_keep) (first | (go_at_call 33; go_must (refine (n_any _ _).mono ?_; rintro e W5 ⟨rfl, hb⟩; (first | (have Px := Px.drew.ext hb; have E := ext_trans (ext_drew (E)) hb) | (have Py := (Box.new G1 0 0 ⟨#[]⟩ 23).drew.ext hb; have gy : w.heap.size ≤ G1.heap.size := E.size; have nxy := Nat.ne_of_lt Px.lt; have mxy := Ne.symm nxy; have Px := (Px.alloc _).drew.ext hb; have E := ext_trans (ext_drew (ext_alloc E _)) hb)); clear hb; obtain ⟨lx, cx0, cx1, cx2, fx⟩ := id Px; (try obtain ⟨ly, cy0, cy1, cy2, fy⟩ := id Py))) | (go_at_call 13; go_must (refine (sub_any (num s) (num b) _ Hs.out Hb.out).mono ?_; rintro e W6 ⟨rfl, hb⟩; rw [H5.out]; (first | (have Py := Py.ext hb; have Px := Px.ext hb; have E := ext_trans (E) hb) | (have Px := Px.ext hb; have E := ext_trans (E) hb) | (have Py := (Box.new W5 0 0 ⟨#[]⟩ 23).ext hb; have gy : w.heap.size ≤ W5.heap.size := E.size; have nxy := Nat.ne_of_lt Px.lt; have mxy := Ne.symm nxy; have Px := (Px.alloc _).ext hb; have E := ext_trans (ext_alloc E _) hb)); clear hb; obtain ⟨lx, cx0, cx1, cx2, fx⟩ := id Px; (try obtain ⟨ly, cy0, cy1, cy2, fy⟩ := id Py))))
  all_goals go_wp2_with fail
  all_goals first
    | (have Py : Box _ G1.heap.size _ := Py.set (1) (a) (⟨#[]⟩)
       clear lx cx0 cx1 cx2 fx ly cy0 cy1 cy2 fy
       have Px := Px.far3 nxy (.int .i64 (1)) (.int .i64 (a)) (.string (⟨#[]⟩))
       have E := ext_set3 gy (.int .i64 (1)) (.int .i64 (a)) (.string (⟨#[]⟩)) E
       generalize (((W6.setCell ⟨G1.heap.size, 0, none⟩ (.int .i64 (1))).setCell ⟨G1.heap.size, 1, none⟩ (.int .i64 (a))).setCell ⟨G1.heap.size, 2, none⟩ (.string (⟨#[]⟩))) = G2 at *
       generalize G1.heap.size = bky at *)
    | (have Py : Box _ W5.heap.size _ := Py.set (1) (a) (⟨#[]⟩)
       clear lx cx0 cx1 cx2 fx ly cy0 cy1 cy2 fy
       have Px := Px.far3 nxy (.int .i64 (1)) (.int .i64 (a)) (.string (⟨#[]⟩))
       have E := ext_set3 gy (.int .i64 (1)) (.int .i64 (a)) (.string (⟨#[]⟩)) E
       generalize (((W6.setCell ⟨W5.heap.size, 0, none⟩ (.int .i64 (1))).setCell ⟨W5.heap.size, 1, none⟩ (.int .i64 (a))).setCell ⟨W5.heap.size, 2, none⟩ (.string (⟨#[]⟩))) = G2 at *
       generalize W5.heap.size = bky at *)
    | (clear lx cx0 cx1 cx2 fx
       have gy : w.heap.size ≤ W6.heap.size := E.size
       have nxy := Nat.ne_of_lt Px.lt
       have Px := Px.alloc (.cells #[.int .i64 (1), .int .i64 (a), .string (⟨#[]⟩)] 23)
       have Py := Box.new W6 (1) (a) (⟨#[]⟩) 23
       have E := ext_alloc E (.cells #[.int .i64 (1), .int .i64 (a), .string (⟨#[]⟩)] 23)
       generalize (W6.alloc (.cells #[.int .i64 (1), .int .i64 (a), .string (⟨#[]⟩)] 23)) = G2 at *
       generalize W6.heap.size = bky at *)
  all_goals obtain ⟨lx, cx0, cx1, cx2, fx⟩ := id Px
  all_goals obtain ⟨ly, cy0, cy1, cy2, fy⟩ := id Py
  all_goals (
    have zy := fun (x : After G2) => (x.cell bky 0 ly).trans cy0
    have yy := fun (x : After G2) => (x.cell bky 1 ly).trans cy1
    have vy := fun (x : After G2) => (x.cell bky 2 ly).trans cy2
    have is := After.some G2
    refine wp_region_after (by kernel_rfl) (by kernel_rfl) ?_
    repeat (quiet_step ((first | (go_at_call 33; exact calls_after (n_any _ _)))))
    refine wpQuiet_nil ?_
    intro _ hw
    obtain ⟨⟨W7, hb⟩, rfl⟩ := hw
    clear is zy yy vy lx cx0 cx1 cx2 fx ly cy0 cy1 cy2 fy
    have Px := Px.ext hb
    have Py := Py.ext hb
    have E := ext_trans E hb
    clear hb
    obtain ⟨lx, cx0, cx1, cx2, fx⟩ := id Px
    obtain ⟨ly, cy0, cy1, cy2, fy⟩ := id Py
    go_wp2_with fail
    refine (n_any _ _).mono ?_
    rintro e W8 ⟨rfl, hb⟩
    clear lx cx0 cx1 cx2 fx ly cy0 cy1 cy2 fy
    have Px := (Px).ext hb
    have Py := (Py).ext hb
    have E := ext_trans (E) hb
    clear hb
    obtain ⟨lx, cx0, cx1, cx2, fx⟩ := id Px
    obtain ⟨ly, cy0, cy1, cy2, fy⟩ := id Py
    go_wp2_with fail
    refine (n_any _ _).mono ?_
    rintro e W9 ⟨rfl, hb⟩
    clear lx cx0 cx1 cx2 fx ly cy0 cy1 cy2 fy
    have Px := (Px).ext hb
    have Py := (Py).ext hb
    have E := ext_trans (E) hb
    clear hb
    obtain ⟨lx, cx0, cx1, cx2, fx⟩ := id Px
    obtain ⟨ly, cy0, cy1, cy2, fy⟩ := id Py
    go_wp2_with fail
    refine (mul_any (num a) (num b) _ Ha.out Hb.out).mono ?_
    rintro e W10 ⟨rfl, hb⟩
    rw [H6.out]
    clear lx cx0 cx1 cx2 fx ly cy0 cy1 cy2 fy
    have Px := (Px).ext hb
    have Py := (Py).ext hb
    have E := ext_trans (E) hb
    clear hb
    obtain ⟨lx, cx0, cx1, cx2, fx⟩ := id Px
    obtain ⟨ly, cy0, cy1, cy2, fy⟩ := id Py
    have gz : w.heap.size ≤ W10.heap.size := E.size
    have nxz : W4.heap.size ≠ W10.heap.size := Nat.ne_of_lt Px.lt
    have nyz : bky ≠ W10.heap.size := Nat.ne_of_lt Py.lt
    go_wp2_with fail
    clear lx cx0 cx1 cx2 fx ly cy0 cy1 cy2 fy
    have Px := Px.alloc (.cells #[.int .i64 (1), .int .i64 (m), .string (⟨#[]⟩)] 23)
    have Py := Py.alloc (.cells #[.int .i64 (1), .int .i64 (m), .string (⟨#[]⟩)] 23)
    have Pz := Box.new W10 (1) (m) (⟨#[]⟩) 23
    have E := ext_alloc E (.cells #[.int .i64 (1), .int .i64 (m), .string (⟨#[]⟩)] 23)
    generalize (W10.alloc (.cells #[.int .i64 (1), .int .i64 (m), .string (⟨#[]⟩)] 23)) = G3 at *
    obtain ⟨lx, cx0, cx1, cx2, fx⟩ := id Px
    obtain ⟨ly, cy0, cy1, cy2, fy⟩ := id Py
    obtain ⟨lz, cz0, cz1, cz2, fz⟩ := id Pz
    go_region_held3 (fun w' => w'.cell? ⟨W10.heap.size, 0, none⟩ = some (.int .i64 (1)) ∧ w'.cell? ⟨W10.heap.size, 1, none⟩ = some (.int .i64 (m)) ∧ w'.cell? ⟨W10.heap.size, 2, none⟩ = some (.string (⟨#[]⟩)))
      (go_keep) (first | (go_at_call 33; go_must (refine (n_any _ _).mono ?_; rintro e W11 ⟨rfl, hb⟩; (first | (have Px := Px.drew.ext hb; have Py := Py.drew.ext hb; have Pz := Pz.drew.ext hb; have E := ext_trans (ext_drew (E)) hb) | (have Pv := (Box.new G3 0 0 ⟨#[]⟩ 23).drew.ext hb; have gv : w.heap.size ≤ G3.heap.size := E.size; have nxv := Nat.ne_of_lt Px.lt; have mxv := Ne.symm nxv; have nyv := Nat.ne_of_lt Py.lt; have myv := Ne.symm nyv; have nzv := Nat.ne_of_lt Pz.lt; have mzv := Ne.symm nzv; have Px := (Px.alloc _).drew.ext hb; have Py := (Py.alloc _).drew.ext hb; have Pz := (Pz.alloc _).drew.ext hb; have E := ext_trans (ext_drew (ext_alloc E _)) hb)); clear hb; obtain ⟨lx, cx0, cx1, cx2, fx⟩ := id Px; obtain ⟨ly, cy0, cy1, cy2, fy⟩ := id Py; obtain ⟨lz, cz0, cz1, cz2, fz⟩ := id Pz; (try obtain ⟨lv, cv0, cv1, cv2, fv⟩ := id Pv))) | (go_at_call 17; go_must (refine (div_any (num m) (num b) _ Hm.out Hb.out).mono ?_; rintro e W12 ⟨rfl, hb⟩; rw [H7.out]; (first | (have Pv := Pv.ext hb; have Px := Px.ext hb; have Py := Py.ext hb; have Pz := Pz.ext hb; have E := ext_trans (E) hb) | (have Px := Px.ext hb; have Py := Py.ext hb; have Pz := Pz.ext hb; have E := ext_trans (E) hb) | (have Pv := (Box.new W11 0 0 ⟨#[]⟩ 23).ext hb; have gv : w.heap.size ≤ W11.heap.size := E.size; have nxv := Nat.ne_of_lt Px.lt; have mxv := Ne.symm nxv; have nyv := Nat.ne_of_lt Py.lt; have myv := Ne.symm nyv; have nzv := Nat.ne_of_lt Pz.lt; have mzv := Ne.symm nzv; have Px := (Px.alloc _).ext hb; have Py := (Py.alloc _).ext hb; have Pz := (Pz.alloc _).ext hb; have E := ext_trans (ext_alloc E _) hb)); clear hb; obtain ⟨lx, cx0, cx1, cx2, fx⟩ := id Px; obtain ⟨ly, cy0, cy1, cy2, fy⟩ := id Py; obtain ⟨lz, cz0, cz1, cz2, fz⟩ := id Pz; (try obtain ⟨lv, cv0, cv1, cv2, fv⟩ := id Pv))))
    all_goals go_wp2_with fail
    all_goals first
      | (have Pv : Box _ G3.heap.size _ := Pv.set (1) (a) (⟨#[]⟩)
         clear lx cx0 cx1 cx2 fx ly cy0 cy1 cy2 fy lz cz0 cz1 cz2 fz lv cv0 cv1 cv2 fv
         have Px := Px.far3 nxv (.int .i64 (1)) (.int .i64 (a)) (.string (⟨#[]⟩))
         have Py := Py.far3 nyv (.int .i64 (1)) (.int .i64 (a)) (.string (⟨#[]⟩))
         have Pz := Pz.far3 nzv (.int .i64 (1)) (.int .i64 (a)) (.string (⟨#[]⟩))
         have E := ext_set3 gv (.int .i64 (1)) (.int .i64 (a)) (.string (⟨#[]⟩)) E
         generalize (((W12.setCell ⟨G3.heap.size, 0, none⟩ (.int .i64 (1))).setCell ⟨G3.heap.size, 1, none⟩ (.int .i64 (a))).setCell ⟨G3.heap.size, 2, none⟩ (.string (⟨#[]⟩))) = G4 at *
         generalize G3.heap.size = bkv at *)
      | (have Pv : Box _ W11.heap.size _ := Pv.set (1) (a) (⟨#[]⟩)
         clear lx cx0 cx1 cx2 fx ly cy0 cy1 cy2 fy lz cz0 cz1 cz2 fz lv cv0 cv1 cv2 fv
         have Px := Px.far3 nxv (.int .i64 (1)) (.int .i64 (a)) (.string (⟨#[]⟩))
         have Py := Py.far3 nyv (.int .i64 (1)) (.int .i64 (a)) (.string (⟨#[]⟩))
         have Pz := Pz.far3 nzv (.int .i64 (1)) (.int .i64 (a)) (.string (⟨#[]⟩))
         have E := ext_set3 gv (.int .i64 (1)) (.int .i64 (a)) (.string (⟨#[]⟩)) E
         generalize (((W12.setCell ⟨W11.heap.size, 0, none⟩ (.int .i64 (1))).setCell ⟨W11.heap.size, 1, none⟩ (.int .i64 (a))).setCell ⟨W11.heap.size, 2, none⟩ (.string (⟨#[]⟩))) = G4 at *
         generalize W11.heap.size = bkv at *)
      | (clear lx cx0 cx1 cx2 fx ly cy0 cy1 cy2 fy lz cz0 cz1 cz2 fz
         have gv : w.heap.size ≤ W12.heap.size := E.size
         have nxv := Nat.ne_of_lt Px.lt
         have nyv := Nat.ne_of_lt Py.lt
         have nzv := Nat.ne_of_lt Pz.lt
         have Px := Px.alloc (.cells #[.int .i64 (1), .int .i64 (a), .string (⟨#[]⟩)] 23)
         have Py := Py.alloc (.cells #[.int .i64 (1), .int .i64 (a), .string (⟨#[]⟩)] 23)
         have Pz := Pz.alloc (.cells #[.int .i64 (1), .int .i64 (a), .string (⟨#[]⟩)] 23)
         have Pv := Box.new W12 (1) (a) (⟨#[]⟩) 23
         have E := ext_alloc E (.cells #[.int .i64 (1), .int .i64 (a), .string (⟨#[]⟩)] 23)
         generalize (W12.alloc (.cells #[.int .i64 (1), .int .i64 (a), .string (⟨#[]⟩)] 23)) = G4 at *
         generalize W12.heap.size = bkv at *)
    all_goals obtain ⟨lx, cx0, cx1, cx2, fx⟩ := id Px
    all_goals obtain ⟨ly, cy0, cy1, cy2, fy⟩ := id Py
    all_goals obtain ⟨lz, cz0, cz1, cz2, fz⟩ := id Pz
    all_goals obtain ⟨lv, cv0, cv1, cv2, fv⟩ := id Pv
    all_goals (
      have zv := fun (x : After G4) => (x.cell bkv 0 lv).trans cv0
      have yv := fun (x : After G4) => (x.cell bkv 1 lv).trans cv1
      have vv := fun (x : After G4) => (x.cell bkv 2 lv).trans cv2
      have is := After.some G4
      refine wp_region_after (by kernel_rfl) (by kernel_rfl) ?_
      repeat (quiet_step ((first | (go_at_call 33; exact calls_after (n_any _ _)))))
      refine wpQuiet_nil ?_
      intro _ hw
      obtain ⟨⟨W13, hb⟩, rfl⟩ := hw
      clear is zv yv vv lx cx0 cx1 cx2 fx ly cy0 cy1 cy2 fy lz cz0 cz1 cz2 fz lv cv0 cv1 cv2 fv
      have Px := Px.ext hb
      have Py := Py.ext hb
      have Pz := Pz.ext hb
      have Pv := Pv.ext hb
      have E := ext_trans E hb
      clear hb
      obtain ⟨lx, cx0, cx1, cx2, fx⟩ := id Px
      obtain ⟨ly, cy0, cy1, cy2, fy⟩ := id Py
      obtain ⟨lz, cz0, cz1, cz2, fz⟩ := id Pz
      obtain ⟨lv, cv0, cv1, cv2, fv⟩ := id Pv
      go_wp2_with fail
      refine (n_any _ _).mono ?_
      rintro e W14 ⟨rfl, hb⟩
      clear lx cx0 cx1 cx2 fx ly cy0 cy1 cy2 fy lz cz0 cz1 cz2 fz lv cv0 cv1 cv2 fv
      have Px := (Px).ext hb
      have Py := (Py).ext hb
      have Pz := (Pz).ext hb
      have Pv := (Pv).ext hb
      have E := ext_trans (E) hb
      clear hb
      obtain ⟨lx, cx0, cx1, cx2, fx⟩ := id Px
      obtain ⟨ly, cy0, cy1, cy2, fy⟩ := id Py
      obtain ⟨lz, cz0, cz1, cz2, fz⟩ := id Pz
      obtain ⟨lv, cv0, cv1, cv2, fv⟩ := id Pv
      go_wp2_with fail
      refine (neg_any (num a) _ Ha.out).mono ?_
      rintro e W15 ⟨rfl, hb⟩
      rw [H8.out]
      clear lx cx0 cx1 cx2 fx ly cy0 cy1 cy2 fy lz cz0 cz1 cz2 fz lv cv0 cv1 cv2 fv
      have Px := (Px).ext hb
      have Py := (Py).ext hb
      have Pz := (Pz).ext hb
      have Pv := (Pv).ext hb
      have E := ext_trans (E) hb
      clear hb
      obtain ⟨lx, cx0, cx1, cx2, fx⟩ := id Px
      obtain ⟨ly, cy0, cy1, cy2, fy⟩ := id Py
      obtain ⟨lz, cz0, cz1, cz2, fz⟩ := id Pz
      obtain ⟨lv, cv0, cv1, cv2, fv⟩ := id Pv
      have gu : w.heap.size ≤ W15.heap.size := E.size
      have nxu : W4.heap.size ≠ W15.heap.size := Nat.ne_of_lt Px.lt
      have nyu : bky ≠ W15.heap.size := Nat.ne_of_lt Py.lt
      have nzu : W10.heap.size ≠ W15.heap.size := Nat.ne_of_lt Pz.lt
      have nvu : bkv ≠ W15.heap.size := Nat.ne_of_lt Pv.lt
      go_wp2_with fail
      refine (neg_any (num c) _ Hc.out).mono ?_
      rintro e W16 ⟨rfl, hb⟩
      rw [H9.out]
      clear lx cx0 cx1 cx2 fx ly cy0 cy1 cy2 fy lz cz0 cz1 cz2 fz lv cv0 cv1 cv2 fv
      have Px := (((Px).alloc _)).ext hb
      have Py := (((Py).alloc _)).ext hb
      have Pz := (((Pz).alloc _)).ext hb
      have Pv := (((Pv).alloc _)).ext hb
      have Pu := (Box.new _ (1) (c) (⟨#[]⟩) _).ext hb
      have E := ext_trans (ext_alloc (E) _) hb
      clear hb
      obtain ⟨lx, cx0, cx1, cx2, fx⟩ := id Px
      obtain ⟨ly, cy0, cy1, cy2, fy⟩ := id Py
      obtain ⟨lz, cz0, cz1, cz2, fz⟩ := id Pz
      obtain ⟨lv, cv0, cv1, cv2, fv⟩ := id Pv
      obtain ⟨lu, cu0, cu1, cu2, fu⟩ := id Pu
      have gt : w.heap.size ≤ W16.heap.size := E.size
      have nxt : W4.heap.size ≠ W16.heap.size := Nat.ne_of_lt Px.lt
      have nyt : bky ≠ W16.heap.size := Nat.ne_of_lt Py.lt
      have nzt : W10.heap.size ≠ W16.heap.size := Nat.ne_of_lt Pz.lt
      have nvt : bkv ≠ W16.heap.size := Nat.ne_of_lt Pv.lt
      have nut : W15.heap.size ≠ W16.heap.size := Nat.ne_of_lt Pu.lt
      go_wp2_with fail
      clear lx cx0 cx1 cx2 fx ly cy0 cy1 cy2 fy lz cz0 cz1 cz2 fz lv cv0 cv1 cv2 fv lu cu0 cu1 cu2 fu
      have Px := Px.alloc (.cells #[.int .i64 (1), .int .i64 (a), .string (⟨#[]⟩)] 23)
      have Py := Py.alloc (.cells #[.int .i64 (1), .int .i64 (a), .string (⟨#[]⟩)] 23)
      have Pz := Pz.alloc (.cells #[.int .i64 (1), .int .i64 (a), .string (⟨#[]⟩)] 23)
      have Pv := Pv.alloc (.cells #[.int .i64 (1), .int .i64 (a), .string (⟨#[]⟩)] 23)
      have Pu := Pu.alloc (.cells #[.int .i64 (1), .int .i64 (a), .string (⟨#[]⟩)] 23)
      have Pt := Box.new W16 (1) (a) (⟨#[]⟩) 23
      have E := ext_alloc E (.cells #[.int .i64 (1), .int .i64 (a), .string (⟨#[]⟩)] 23)
      generalize (W16.alloc (.cells #[.int .i64 (1), .int .i64 (a), .string (⟨#[]⟩)] 23)) = G5 at *
      obtain ⟨lx, cx0, cx1, cx2, fx⟩ := id Px
      obtain ⟨ly, cy0, cy1, cy2, fy⟩ := id Py
      obtain ⟨lz, cz0, cz1, cz2, fz⟩ := id Pz
      obtain ⟨lv, cv0, cv1, cv2, fv⟩ := id Pv
      obtain ⟨lu, cu0, cu1, cu2, fu⟩ := id Pu
      obtain ⟨lt, ct0, ct1, ct2, ft⟩ := id Pt
      have zt := fun (x : After G5) => (x.cell W16.heap.size 0 lt).trans ct0
      have yt := fun (x : After G5) => (x.cell W16.heap.size 1 lt).trans ct1
      have vt := fun (x : After G5) => (x.cell W16.heap.size 2 lt).trans ct2
      have is := After.some G5
      refine wp_region_after (by kernel_rfl) (by kernel_rfl) ?_
      repeat (quiet_step ((first | (go_at_call 33; exact calls_after (n_any _ _)))))
      refine wpQuiet_nil ?_
      intro _ hw
      obtain ⟨⟨W17, hb⟩, rfl⟩ := hw
      clear is zt yt vt lx cx0 cx1 cx2 fx ly cy0 cy1 cy2 fy lz cz0 cz1 cz2 fz lv cv0 cv1 cv2 fv lu cu0 cu1 cu2 fu lt ct0 ct1 ct2 ft
      have Px := Px.ext hb
      have Py := Py.ext hb
      have Pz := Pz.ext hb
      have Pv := Pv.ext hb
      have Pu := Pu.ext hb
      have Pt := Pt.ext hb
      have E := ext_trans E hb
      clear hb
      obtain ⟨lx, cx0, cx1, cx2, fx⟩ := id Px
      obtain ⟨ly, cy0, cy1, cy2, fy⟩ := id Py
      obtain ⟨lz, cz0, cz1, cz2, fz⟩ := id Pz
      obtain ⟨lv, cv0, cv1, cv2, fv⟩ := id Pv
      obtain ⟨lu, cu0, cu1, cu2, fu⟩ := id Pu
      obtain ⟨lt, ct0, ct1, ct2, ft⟩ := id Pt
      all_goals go_wp2_with fail
      all_goals go_ret
      all_goals refine ⟨by first | rfl | (simp; done) | (simp; omega), ?_⟩
      all_goals (repeat (first | exact ext_refl _ | assumption | (refine ext_alloc ?_ _) | (refine ext_drewN ?_ _) | refine ext_drew ?_ | (refine ext_set (by first | (simp; done) | (simp; omega)) _ ?_) | (refine ext_trans ?_ (by assumption))))))

set_option maxHeartbeats 8000000 in
theorem back_fit_fit_least (b s m : Int) (w : World) (ha : inR (-9223372036854775808) = true) (hb : inR b = true) (hs : inR s = true) (h4 : arith 4 (num (-9223372036854775808)) (num b) = (num s, 0)) (h5 : arith 5 (num s) (num b) = (num (-9223372036854775808), 0)) (hm : inR m = true) (hb0 : (b != 0) = true) (h6 : arith 6 (num (-9223372036854775808)) (num b) = (num m, 0)) (h7 : arith 7 (num m) (num b) = (num (-9223372036854775808), 0)) (h8 : arith 5 (num 0) (num (-9223372036854775808)) = (nul, 3)) (h9 : arith 5 (num 0) nul = (nul, 0)) : Calls Try.prog 6 #[.int .i64 (-9223372036854775808), .int .i64 b] w fun e w' => e = .returned (.bool true) ∧ Below w.heap.size w w' := by
  have Ha := Lib.hid ha
  have Hb := Lib.hid hb
  have H4 := Lib.hid h4
  have Hs := Lib.hid hs
  have H5 := Lib.hid h5
  have H6 := Lib.hid h6
  have Hm := Lib.hid hm
  have H7 := Lib.hid h7
  have H8 := Lib.hid h8
  have H9 := Lib.hid h9
  clear ha hb h4 hs h5 h6 hm h7 h8 h9
  have E := ext_refl w
  go_enter Try.func6, Try.ntmps6
  go_wp2_with fail
  refine (examples_any _).mono ?_
  rintro e W1 ⟨rfl, hb⟩
  have E := ext_trans E hb
  clear hb
  go_wp2_with fail
  refine (n_any _ _).mono ?_
  rintro e W2 ⟨rfl, hb⟩
  have E := ext_trans E hb
  clear hb
  go_wp2_with fail
  refine (n_any _ _).mono ?_
  rintro e W3 ⟨rfl, hb⟩
  have E := ext_trans E hb
  clear hb
  go_wp2_with fail
  refine (add_any (num (-9223372036854775808)) (num b) _ Ha.out Hb.out).mono ?_
  rintro e W4 ⟨rfl, hb⟩
  rw [H4.out]
  have E := ext_trans E hb
  clear hb
  have gx : w.heap.size ≤ W4.heap.size := E.size
  go_wp2_with fail
  have Px := Box.new W4 (1) (s) (⟨#[]⟩) 23
  have E := ext_alloc E (.cells #[.int .i64 (1), .int .i64 (s), .string (⟨#[]⟩)] 23)
  generalize (W4.alloc (.cells #[.int .i64 (1), .int .i64 (s), .string (⟨#[]⟩)] 23)) = G1 at *
  obtain ⟨lx, cx0, cx1, cx2, fx⟩ := id Px
  go_region_held3 (fun w' => w'.cell? ⟨W4.heap.size, 0, none⟩ = some (.int .i64 (1)) ∧ w'.cell? ⟨W4.heap.size, 1, none⟩ = some (.int .i64 (s)) ∧ w'.cell? ⟨W4.heap.size, 2, none⟩ = some (.string (⟨#[]⟩)))
    (go_keep) (first | (go_at_call 33; go_must (refine (n_any _ _).mono ?_; rintro e W5 ⟨rfl, hb⟩; (first | (have Px := Px.drew.ext hb; have E := ext_trans (ext_drew (E)) hb) | (have Py := (Box.new G1 0 0 ⟨#[]⟩ 23).drew.ext hb; have gy : w.heap.size ≤ G1.heap.size := E.size; have nxy := Nat.ne_of_lt Px.lt; have mxy := Ne.symm nxy; have Px := (Px.alloc _).drew.ext hb; have E := ext_trans (ext_drew (ext_alloc E _)) hb)); clear hb; obtain ⟨lx, cx0, cx1, cx2, fx⟩ := id Px; (try obtain ⟨ly, cy0, cy1, cy2, fy⟩ := id Py))) | (go_at_call 13; go_must (refine (sub_any (num s) (num b) _ Hs.out Hb.out).mono ?_; rintro e W6 ⟨rfl, hb⟩; rw [H5.out]; (first | (have Py := Py.ext hb; have Px := Px.ext hb; have E := ext_trans (E) hb) | (have Px := Px.ext hb; have E := ext_trans (E) hb) | (have Py := (Box.new W5 0 0 ⟨#[]⟩ 23).ext hb; have gy : w.heap.size ≤ W5.heap.size := E.size; have nxy := Nat.ne_of_lt Px.lt; have mxy := Ne.symm nxy; have Px := (Px.alloc _).ext hb; have E := ext_trans (ext_alloc E _) hb)); clear hb; obtain ⟨lx, cx0, cx1, cx2, fx⟩ := id Px; (try obtain ⟨ly, cy0, cy1, cy2, fy⟩ := id Py))))
  all_goals go_wp2_with fail
  all_goals first
    | (have Py : Box _ G1.heap.size _ := Py.set (1) ((-9223372036854775808)) (⟨#[]⟩)
       clear lx cx0 cx1 cx2 fx ly cy0 cy1 cy2 fy
       have Px := Px.far3 nxy (.int .i64 (1)) (.int .i64 ((-9223372036854775808))) (.string (⟨#[]⟩))
       have E := ext_set3 gy (.int .i64 (1)) (.int .i64 ((-9223372036854775808))) (.string (⟨#[]⟩)) E
       generalize (((W6.setCell ⟨G1.heap.size, 0, none⟩ (.int .i64 (1))).setCell ⟨G1.heap.size, 1, none⟩ (.int .i64 ((-9223372036854775808)))).setCell ⟨G1.heap.size, 2, none⟩ (.string (⟨#[]⟩))) = G2 at *
       generalize G1.heap.size = bky at *)
    | (have Py : Box _ W5.heap.size _ := Py.set (1) ((-9223372036854775808)) (⟨#[]⟩)
       clear lx cx0 cx1 cx2 fx ly cy0 cy1 cy2 fy
       have Px := Px.far3 nxy (.int .i64 (1)) (.int .i64 ((-9223372036854775808))) (.string (⟨#[]⟩))
       have E := ext_set3 gy (.int .i64 (1)) (.int .i64 ((-9223372036854775808))) (.string (⟨#[]⟩)) E
       generalize (((W6.setCell ⟨W5.heap.size, 0, none⟩ (.int .i64 (1))).setCell ⟨W5.heap.size, 1, none⟩ (.int .i64 ((-9223372036854775808)))).setCell ⟨W5.heap.size, 2, none⟩ (.string (⟨#[]⟩))) = G2 at *
       generalize W5.heap.size = bky at *)
    | (clear lx cx0 cx1 cx2 fx
       have gy : w.heap.size ≤ W6.heap.size := E.size
       have nxy := Nat.ne_of_lt Px.lt
       have Px := Px.alloc (.cells #[.int .i64 (1), .int .i64 ((-9223372036854775808)), .string (⟨#[]⟩)] 23)
       have Py := Box.new W6 (1) ((-9223372036854775808)) (⟨#[]⟩) 23
       have E := ext_alloc E (.cells #[.int .i64 (1), .int .i64 ((-9223372036854775808)), .string (⟨#[]⟩)] 23)
       generalize (W6.alloc (.cells #[.int .i64 (1), .int .i64 ((-9223372036854775808)), .string (⟨#[]⟩)] 23)) = G2 at *
       generalize W6.heap.size = bky at *)
  all_goals obtain ⟨lx, cx0, cx1, cx2, fx⟩ := id Px
  all_goals obtain ⟨ly, cy0, cy1, cy2, fy⟩ := id Py
  all_goals (
    have zy := fun (x : After G2) => (x.cell bky 0 ly).trans cy0
    have yy := fun (x : After G2) => (x.cell bky 1 ly).trans cy1
    have vy := fun (x : After G2) => (x.cell bky 2 ly).trans cy2
    have is := After.some G2
    refine wp_region_after (by kernel_rfl) (by kernel_rfl) ?_
    repeat (quiet_step ((first | (go_at_call 33; exact calls_after (n_any _ _)))))
    refine wpQuiet_nil ?_
    intro _ hw
    obtain ⟨⟨W7, hb⟩, rfl⟩ := hw
    clear is zy yy vy lx cx0 cx1 cx2 fx ly cy0 cy1 cy2 fy
    have Px := Px.ext hb
    have Py := Py.ext hb
    have E := ext_trans E hb
    clear hb
    obtain ⟨lx, cx0, cx1, cx2, fx⟩ := id Px
    obtain ⟨ly, cy0, cy1, cy2, fy⟩ := id Py
    go_wp2_with fail
    refine (n_any _ _).mono ?_
    rintro e W8 ⟨rfl, hb⟩
    clear lx cx0 cx1 cx2 fx ly cy0 cy1 cy2 fy
    have Px := (Px).ext hb
    have Py := (Py).ext hb
    have E := ext_trans (E) hb
    clear hb
    obtain ⟨lx, cx0, cx1, cx2, fx⟩ := id Px
    obtain ⟨ly, cy0, cy1, cy2, fy⟩ := id Py
    go_wp2_with fail
    refine (n_any _ _).mono ?_
    rintro e W9 ⟨rfl, hb⟩
    clear lx cx0 cx1 cx2 fx ly cy0 cy1 cy2 fy
    have Px := (Px).ext hb
    have Py := (Py).ext hb
    have E := ext_trans (E) hb
    clear hb
    obtain ⟨lx, cx0, cx1, cx2, fx⟩ := id Px
    obtain ⟨ly, cy0, cy1, cy2, fy⟩ := id Py
    go_wp2_with fail
    refine (mul_any (num (-9223372036854775808)) (num b) _ Ha.out Hb.out).mono ?_
    rintro e W10 ⟨rfl, hb⟩
    rw [H6.out]
    clear lx cx0 cx1 cx2 fx ly cy0 cy1 cy2 fy
    have Px := (Px).ext hb
    have Py := (Py).ext hb
    have E := ext_trans (E) hb
    clear hb
    obtain ⟨lx, cx0, cx1, cx2, fx⟩ := id Px
    obtain ⟨ly, cy0, cy1, cy2, fy⟩ := id Py
    have gz : w.heap.size ≤ W10.heap.size := E.size
    have nxz : W4.heap.size ≠ W10.heap.size := Nat.ne_of_lt Px.lt
    have nyz : bky ≠ W10.heap.size := Nat.ne_of_lt Py.lt
    go_wp2_with fail
    clear lx cx0 cx1 cx2 fx ly cy0 cy1 cy2 fy
    have Px := Px.alloc (.cells #[.int .i64 (1), .int .i64 (m), .string (⟨#[]⟩)] 23)
    have Py := Py.alloc (.cells #[.int .i64 (1), .int .i64 (m), .string (⟨#[]⟩)] 23)
    have Pz := Box.new W10 (1) (m) (⟨#[]⟩) 23
    have E := ext_alloc E (.cells #[.int .i64 (1), .int .i64 (m), .string (⟨#[]⟩)] 23)
    generalize (W10.alloc (.cells #[.int .i64 (1), .int .i64 (m), .string (⟨#[]⟩)] 23)) = G3 at *
    obtain ⟨lx, cx0, cx1, cx2, fx⟩ := id Px
    obtain ⟨ly, cy0, cy1, cy2, fy⟩ := id Py
    obtain ⟨lz, cz0, cz1, cz2, fz⟩ := id Pz
    go_region_held3 (fun w' => w'.cell? ⟨W10.heap.size, 0, none⟩ = some (.int .i64 (1)) ∧ w'.cell? ⟨W10.heap.size, 1, none⟩ = some (.int .i64 (m)) ∧ w'.cell? ⟨W10.heap.size, 2, none⟩ = some (.string (⟨#[]⟩)))
      (go_keep) (first | (go_at_call 33; go_must (refine (n_any _ _).mono ?_; rintro e W11 ⟨rfl, hb⟩; (first | (have Px := Px.drew.ext hb; have Py := Py.drew.ext hb; have Pz := Pz.drew.ext hb; have E := ext_trans (ext_drew (E)) hb) | (have Pv := (Box.new G3 0 0 ⟨#[]⟩ 23).drew.ext hb; have gv : w.heap.size ≤ G3.heap.size := E.size; have nxv := Nat.ne_of_lt Px.lt; have mxv := Ne.symm nxv; have nyv := Nat.ne_of_lt Py.lt; have myv := Ne.symm nyv; have nzv := Nat.ne_of_lt Pz.lt; have mzv := Ne.symm nzv; have Px := (Px.alloc _).drew.ext hb; have Py := (Py.alloc _).drew.ext hb; have Pz := (Pz.alloc _).drew.ext hb; have E := ext_trans (ext_drew (ext_alloc E _)) hb)); clear hb; obtain ⟨lx, cx0, cx1, cx2, fx⟩ := id Px; obtain ⟨ly, cy0, cy1, cy2, fy⟩ := id Py; obtain ⟨lz, cz0, cz1, cz2, fz⟩ := id Pz; (try obtain ⟨lv, cv0, cv1, cv2, fv⟩ := id Pv))) | (go_at_call 17; go_must (refine (div_any (num m) (num b) _ Hm.out Hb.out).mono ?_; rintro e W12 ⟨rfl, hb⟩; rw [H7.out]; (first | (have Pv := Pv.ext hb; have Px := Px.ext hb; have Py := Py.ext hb; have Pz := Pz.ext hb; have E := ext_trans (E) hb) | (have Px := Px.ext hb; have Py := Py.ext hb; have Pz := Pz.ext hb; have E := ext_trans (E) hb) | (have Pv := (Box.new W11 0 0 ⟨#[]⟩ 23).ext hb; have gv : w.heap.size ≤ W11.heap.size := E.size; have nxv := Nat.ne_of_lt Px.lt; have mxv := Ne.symm nxv; have nyv := Nat.ne_of_lt Py.lt; have myv := Ne.symm nyv; have nzv := Nat.ne_of_lt Pz.lt; have mzv := Ne.symm nzv; have Px := (Px.alloc _).ext hb; have Py := (Py.alloc _).ext hb; have Pz := (Pz.alloc _).ext hb; have E := ext_trans (ext_alloc E _) hb)); clear hb; obtain ⟨lx, cx0, cx1, cx2, fx⟩ := id Px; obtain ⟨ly, cy0, cy1, cy2, fy⟩ := id Py; obtain ⟨lz, cz0, cz1, cz2, fz⟩ := id Pz; (try obtain ⟨lv, cv0, cv1, cv2, fv⟩ := id Pv))))
    all_goals go_wp2_with fail
    all_goals first
      | (have Pv : Box _ G3.heap.size _ := Pv.set (1) ((-9223372036854775808)) (⟨#[]⟩)
         clear lx cx0 cx1 cx2 fx ly cy0 cy1 cy2 fy lz cz0 cz1 cz2 fz lv cv0 cv1 cv2 fv
         have Px := Px.far3 nxv (.int .i64 (1)) (.int .i64 ((-9223372036854775808))) (.string (⟨#[]⟩))
         have Py := Py.far3 nyv (.int .i64 (1)) (.int .i64 ((-9223372036854775808))) (.string (⟨#[]⟩))
         have Pz := Pz.far3 nzv (.int .i64 (1)) (.int .i64 ((-9223372036854775808))) (.string (⟨#[]⟩))
         have E := ext_set3 gv (.int .i64 (1)) (.int .i64 ((-9223372036854775808))) (.string (⟨#[]⟩)) E
         generalize (((W12.setCell ⟨G3.heap.size, 0, none⟩ (.int .i64 (1))).setCell ⟨G3.heap.size, 1, none⟩ (.int .i64 ((-9223372036854775808)))).setCell ⟨G3.heap.size, 2, none⟩ (.string (⟨#[]⟩))) = G4 at *
         generalize G3.heap.size = bkv at *)
      | (have Pv : Box _ W11.heap.size _ := Pv.set (1) ((-9223372036854775808)) (⟨#[]⟩)
         clear lx cx0 cx1 cx2 fx ly cy0 cy1 cy2 fy lz cz0 cz1 cz2 fz lv cv0 cv1 cv2 fv
         have Px := Px.far3 nxv (.int .i64 (1)) (.int .i64 ((-9223372036854775808))) (.string (⟨#[]⟩))
         have Py := Py.far3 nyv (.int .i64 (1)) (.int .i64 ((-9223372036854775808))) (.string (⟨#[]⟩))
         have Pz := Pz.far3 nzv (.int .i64 (1)) (.int .i64 ((-9223372036854775808))) (.string (⟨#[]⟩))
         have E := ext_set3 gv (.int .i64 (1)) (.int .i64 ((-9223372036854775808))) (.string (⟨#[]⟩)) E
         generalize (((W12.setCell ⟨W11.heap.size, 0, none⟩ (.int .i64 (1))).setCell ⟨W11.heap.size, 1, none⟩ (.int .i64 ((-9223372036854775808)))).setCell ⟨W11.heap.size, 2, none⟩ (.string (⟨#[]⟩))) = G4 at *
         generalize W11.heap.size = bkv at *)
      | (clear lx cx0 cx1 cx2 fx ly cy0 cy1 cy2 fy lz cz0 cz1 cz2 fz
         have gv : w.heap.size ≤ W12.heap.size := E.size
         have nxv := Nat.ne_of_lt Px.lt
         have nyv := Nat.ne_of_lt Py.lt
         have nzv := Nat.ne_of_lt Pz.lt
         have Px := Px.alloc (.cells #[.int .i64 (1), .int .i64 ((-9223372036854775808)), .string (⟨#[]⟩)] 23)
         have Py := Py.alloc (.cells #[.int .i64 (1), .int .i64 ((-9223372036854775808)), .string (⟨#[]⟩)] 23)
         have Pz := Pz.alloc (.cells #[.int .i64 (1), .int .i64 ((-9223372036854775808)), .string (⟨#[]⟩)] 23)
         have Pv := Box.new W12 (1) ((-9223372036854775808)) (⟨#[]⟩) 23
         have E := ext_alloc E (.cells #[.int .i64 (1), .int .i64 ((-9223372036854775808)), .string (⟨#[]⟩)] 23)
         generalize (W12.alloc (.cells #[.int .i64 (1), .int .i64 ((-9223372036854775808)), .string (⟨#[]⟩)] 23)) = G4 at *
         generalize W12.heap.size = bkv at *)
    all_goals obtain ⟨lx, cx0, cx1, cx2, fx⟩ := id Px
    all_goals obtain ⟨ly, cy0, cy1, cy2, fy⟩ := id Py
    all_goals obtain ⟨lz, cz0, cz1, cz2, fz⟩ := id Pz
    all_goals obtain ⟨lv, cv0, cv1, cv2, fv⟩ := id Pv
    all_goals (
      have zv := fun (x : After G4) => (x.cell bkv 0 lv).trans cv0
      have yv := fun (x : After G4) => (x.cell bkv 1 lv).trans cv1
      have vv := fun (x : After G4) => (x.cell bkv 2 lv).trans cv2
      have is := After.some G4
      refine wp_region_after (by kernel_rfl) (by kernel_rfl) ?_
      repeat (quiet_step ((first | (go_at_call 33; exact calls_after (n_any _ _)))))
      refine wpQuiet_nil ?_
      intro _ hw
      obtain ⟨⟨W13, hb⟩, rfl⟩ := hw
      clear is zv yv vv lx cx0 cx1 cx2 fx ly cy0 cy1 cy2 fy lz cz0 cz1 cz2 fz lv cv0 cv1 cv2 fv
      have Px := Px.ext hb
      have Py := Py.ext hb
      have Pz := Pz.ext hb
      have Pv := Pv.ext hb
      have E := ext_trans E hb
      clear hb
      obtain ⟨lx, cx0, cx1, cx2, fx⟩ := id Px
      obtain ⟨ly, cy0, cy1, cy2, fy⟩ := id Py
      obtain ⟨lz, cz0, cz1, cz2, fz⟩ := id Pz
      obtain ⟨lv, cv0, cv1, cv2, fv⟩ := id Pv
      go_wp2_with fail
      refine (n_any _ _).mono ?_
      rintro e W14 ⟨rfl, hb⟩
      clear lx cx0 cx1 cx2 fx ly cy0 cy1 cy2 fy lz cz0 cz1 cz2 fz lv cv0 cv1 cv2 fv
      have Px := (Px).ext hb
      have Py := (Py).ext hb
      have Pz := (Pz).ext hb
      have Pv := (Pv).ext hb
      have E := ext_trans (E) hb
      clear hb
      obtain ⟨lx, cx0, cx1, cx2, fx⟩ := id Px
      obtain ⟨ly, cy0, cy1, cy2, fy⟩ := id Py
      obtain ⟨lz, cz0, cz1, cz2, fz⟩ := id Pz
      obtain ⟨lv, cv0, cv1, cv2, fv⟩ := id Pv
      go_wp2_with fail
      refine (neg_any (num (-9223372036854775808)) _ Ha.out).mono ?_
      rintro e W15 ⟨rfl, hb⟩
      rw [H8.out]
      clear lx cx0 cx1 cx2 fx ly cy0 cy1 cy2 fy lz cz0 cz1 cz2 fz lv cv0 cv1 cv2 fv
      have Px := (Px).ext hb
      have Py := (Py).ext hb
      have Pz := (Pz).ext hb
      have Pv := (Pv).ext hb
      have E := ext_trans (E) hb
      clear hb
      obtain ⟨lx, cx0, cx1, cx2, fx⟩ := id Px
      obtain ⟨ly, cy0, cy1, cy2, fy⟩ := id Py
      obtain ⟨lz, cz0, cz1, cz2, fz⟩ := id Pz
      obtain ⟨lv, cv0, cv1, cv2, fv⟩ := id Pv
      have gu : w.heap.size ≤ W15.heap.size := E.size
      have nxu : W4.heap.size ≠ W15.heap.size := Nat.ne_of_lt Px.lt
      have nyu : bky ≠ W15.heap.size := Nat.ne_of_lt Py.lt
      have nzu : W10.heap.size ≠ W15.heap.size := Nat.ne_of_lt Pz.lt
      have nvu : bkv ≠ W15.heap.size := Nat.ne_of_lt Pv.lt
      go_wp2_with fail
      refine (neg_any nul _ (by decide)).mono ?_
      rintro e W16 ⟨rfl, hb⟩
      rw [H9.out]
      clear lx cx0 cx1 cx2 fx ly cy0 cy1 cy2 fy lz cz0 cz1 cz2 fz lv cv0 cv1 cv2 fv
      have Px := (((Px).alloc _)).ext hb
      have Py := (((Py).alloc _)).ext hb
      have Pz := (((Pz).alloc _)).ext hb
      have Pv := (((Pv).alloc _)).ext hb
      have Pu := (Box.new _ (0) (0) (⟨#[]⟩) _).ext hb
      have E := ext_trans (ext_alloc (E) _) hb
      clear hb
      obtain ⟨lx, cx0, cx1, cx2, fx⟩ := id Px
      obtain ⟨ly, cy0, cy1, cy2, fy⟩ := id Py
      obtain ⟨lz, cz0, cz1, cz2, fz⟩ := id Pz
      obtain ⟨lv, cv0, cv1, cv2, fv⟩ := id Pv
      obtain ⟨lu, cu0, cu1, cu2, fu⟩ := id Pu
      have gt : w.heap.size ≤ W16.heap.size := E.size
      have nxt : W4.heap.size ≠ W16.heap.size := Nat.ne_of_lt Px.lt
      have nyt : bky ≠ W16.heap.size := Nat.ne_of_lt Py.lt
      have nzt : W10.heap.size ≠ W16.heap.size := Nat.ne_of_lt Pz.lt
      have nvt : bkv ≠ W16.heap.size := Nat.ne_of_lt Pv.lt
      have nut : W15.heap.size ≠ W16.heap.size := Nat.ne_of_lt Pu.lt
      go_wp2_with fail
      clear lx cx0 cx1 cx2 fx ly cy0 cy1 cy2 fy lz cz0 cz1 cz2 fz lv cv0 cv1 cv2 fv lu cu0 cu1 cu2 fu
      have Px := Px.alloc (.cells #[.int .i64 (0), .int .i64 (0), .string (⟨#[]⟩)] 23)
      have Py := Py.alloc (.cells #[.int .i64 (0), .int .i64 (0), .string (⟨#[]⟩)] 23)
      have Pz := Pz.alloc (.cells #[.int .i64 (0), .int .i64 (0), .string (⟨#[]⟩)] 23)
      have Pv := Pv.alloc (.cells #[.int .i64 (0), .int .i64 (0), .string (⟨#[]⟩)] 23)
      have Pu := Pu.alloc (.cells #[.int .i64 (0), .int .i64 (0), .string (⟨#[]⟩)] 23)
      have Pt := Box.new W16 (0) (0) (⟨#[]⟩) 23
      have E := ext_alloc E (.cells #[.int .i64 (0), .int .i64 (0), .string (⟨#[]⟩)] 23)
      generalize (W16.alloc (.cells #[.int .i64 (0), .int .i64 (0), .string (⟨#[]⟩)] 23)) = G5 at *
      obtain ⟨lx, cx0, cx1, cx2, fx⟩ := id Px
      obtain ⟨ly, cy0, cy1, cy2, fy⟩ := id Py
      obtain ⟨lz, cz0, cz1, cz2, fz⟩ := id Pz
      obtain ⟨lv, cv0, cv1, cv2, fv⟩ := id Pv
      obtain ⟨lu, cu0, cu1, cu2, fu⟩ := id Pu
      obtain ⟨lt, ct0, ct1, ct2, ft⟩ := id Pt
      go_quiet (fail)
      go_wp2_with fail
      all_goals go_ret
      all_goals refine ⟨by first | rfl | (simp; done) | (simp; omega), ?_⟩
      all_goals (repeat (first | exact ext_refl _ | assumption | (refine ext_alloc ?_ _) | (refine ext_drewN ?_ _) | refine ext_drew ?_ | (refine ext_set (by first | (simp; done) | (simp; omega)) _ ?_) | (refine ext_trans ?_ (by assumption))))))

set_option maxHeartbeats 8000000 in
theorem back_fit_zero_fit (a s c : Int) (w : World) (ha : inR a = true) (hb : inR 0 = true) (hs : inR s = true) (h4 : arith 4 (num a) (num 0) = (num s, 0)) (h5 : arith 5 (num s) (num 0) = (num a, 0)) (h6 : arith 6 (num a) (num 0) = (num 0, 0)) (hc : inR c = true) (h8 : arith 5 (num 0) (num a) = (num c, 0)) (h9 : arith 5 (num 0) (num c) = (num a, 0)) : Calls Try.prog 6 #[.int .i64 a, .int .i64 0] w fun e w' => e = .returned (.bool true) ∧ Below w.heap.size w w' := by
  have Ha := Lib.hid ha
  have Hb := Lib.hid hb
  have H4 := Lib.hid h4
  have Hs := Lib.hid hs
  have H5 := Lib.hid h5
  have H6 := Lib.hid h6
  have Hc := Lib.hid hc
  have H8 := Lib.hid h8
  have H9 := Lib.hid h9
  clear ha hb h4 hs h5 h6 hc h8 h9
  have E := ext_refl w
  go_enter Try.func6, Try.ntmps6
  go_wp2_with fail
  refine (examples_any _).mono ?_
  rintro e W1 ⟨rfl, hb⟩
  have E := ext_trans E hb
  clear hb
  go_wp2_with fail
  refine (n_any _ _).mono ?_
  rintro e W2 ⟨rfl, hb⟩
  have E := ext_trans E hb
  clear hb
  go_wp2_with fail
  refine (n_any _ _).mono ?_
  rintro e W3 ⟨rfl, hb⟩
  have E := ext_trans E hb
  clear hb
  go_wp2_with fail
  refine (add_any (num a) (num 0) _ Ha.out Hb.out).mono ?_
  rintro e W4 ⟨rfl, hb⟩
  rw [H4.out]
  have E := ext_trans E hb
  clear hb
  have gx : w.heap.size ≤ W4.heap.size := E.size
  go_wp2_with fail
  have Px := Box.new W4 (1) (s) (⟨#[]⟩) 23
  have E := ext_alloc E (.cells #[.int .i64 (1), .int .i64 (s), .string (⟨#[]⟩)] 23)
  generalize (W4.alloc (.cells #[.int .i64 (1), .int .i64 (s), .string (⟨#[]⟩)] 23)) = G1 at *
  obtain ⟨lx, cx0, cx1, cx2, fx⟩ := id Px
  go_region_held3 (fun w' => w'.cell? ⟨W4.heap.size, 0, none⟩ = some (.int .i64 (1)) ∧ w'.cell? ⟨W4.heap.size, 1, none⟩ = some (.int .i64 (s)) ∧ w'.cell? ⟨W4.heap.size, 2, none⟩ = some (.string (⟨#[]⟩)))
    (go_keep) (first | (go_at_call 33; go_must (refine (n_any _ _).mono ?_; rintro e W5 ⟨rfl, hb⟩; (first | (have Px := Px.drew.ext hb; have E := ext_trans (ext_drew (E)) hb) | (have Py := (Box.new G1 0 0 ⟨#[]⟩ 23).drew.ext hb; have gy : w.heap.size ≤ G1.heap.size := E.size; have nxy := Nat.ne_of_lt Px.lt; have mxy := Ne.symm nxy; have Px := (Px.alloc _).drew.ext hb; have E := ext_trans (ext_drew (ext_alloc E _)) hb)); clear hb; obtain ⟨lx, cx0, cx1, cx2, fx⟩ := id Px; (try obtain ⟨ly, cy0, cy1, cy2, fy⟩ := id Py))) | (go_at_call 13; go_must (refine (sub_any (num s) (num 0) _ Hs.out Hb.out).mono ?_; rintro e W6 ⟨rfl, hb⟩; rw [H5.out]; (first | (have Py := Py.ext hb; have Px := Px.ext hb; have E := ext_trans (E) hb) | (have Px := Px.ext hb; have E := ext_trans (E) hb) | (have Py := (Box.new W5 0 0 ⟨#[]⟩ 23).ext hb; have gy : w.heap.size ≤ W5.heap.size := E.size; have nxy := Nat.ne_of_lt Px.lt; have mxy := Ne.symm nxy; have Px := (Px.alloc _).ext hb; have E := ext_trans (ext_alloc E _) hb)); clear hb; obtain ⟨lx, cx0, cx1, cx2, fx⟩ := id Px; (try obtain ⟨ly, cy0, cy1, cy2, fy⟩ := id Py))))
  all_goals go_wp2_with fail
  all_goals first
    | (have Py : Box _ G1.heap.size _ := Py.set (1) (a) (⟨#[]⟩)
       clear lx cx0 cx1 cx2 fx ly cy0 cy1 cy2 fy
       have Px := Px.far3 nxy (.int .i64 (1)) (.int .i64 (a)) (.string (⟨#[]⟩))
       have E := ext_set3 gy (.int .i64 (1)) (.int .i64 (a)) (.string (⟨#[]⟩)) E
       generalize (((W6.setCell ⟨G1.heap.size, 0, none⟩ (.int .i64 (1))).setCell ⟨G1.heap.size, 1, none⟩ (.int .i64 (a))).setCell ⟨G1.heap.size, 2, none⟩ (.string (⟨#[]⟩))) = G2 at *
       generalize G1.heap.size = bky at *)
    | (have Py : Box _ W5.heap.size _ := Py.set (1) (a) (⟨#[]⟩)
       clear lx cx0 cx1 cx2 fx ly cy0 cy1 cy2 fy
       have Px := Px.far3 nxy (.int .i64 (1)) (.int .i64 (a)) (.string (⟨#[]⟩))
       have E := ext_set3 gy (.int .i64 (1)) (.int .i64 (a)) (.string (⟨#[]⟩)) E
       generalize (((W6.setCell ⟨W5.heap.size, 0, none⟩ (.int .i64 (1))).setCell ⟨W5.heap.size, 1, none⟩ (.int .i64 (a))).setCell ⟨W5.heap.size, 2, none⟩ (.string (⟨#[]⟩))) = G2 at *
       generalize W5.heap.size = bky at *)
    | (clear lx cx0 cx1 cx2 fx
       have gy : w.heap.size ≤ W6.heap.size := E.size
       have nxy := Nat.ne_of_lt Px.lt
       have Px := Px.alloc (.cells #[.int .i64 (1), .int .i64 (a), .string (⟨#[]⟩)] 23)
       have Py := Box.new W6 (1) (a) (⟨#[]⟩) 23
       have E := ext_alloc E (.cells #[.int .i64 (1), .int .i64 (a), .string (⟨#[]⟩)] 23)
       generalize (W6.alloc (.cells #[.int .i64 (1), .int .i64 (a), .string (⟨#[]⟩)] 23)) = G2 at *
       generalize W6.heap.size = bky at *)
  all_goals obtain ⟨lx, cx0, cx1, cx2, fx⟩ := id Px
  all_goals obtain ⟨ly, cy0, cy1, cy2, fy⟩ := id Py
  all_goals (
    have zy := fun (x : After G2) => (x.cell bky 0 ly).trans cy0
    have yy := fun (x : After G2) => (x.cell bky 1 ly).trans cy1
    have vy := fun (x : After G2) => (x.cell bky 2 ly).trans cy2
    have is := After.some G2
    refine wp_region_after (by kernel_rfl) (by kernel_rfl) ?_
    repeat (quiet_step ((first | (go_at_call 33; exact calls_after (n_any _ _)))))
    refine wpQuiet_nil ?_
    intro _ hw
    obtain ⟨⟨W7, hb⟩, rfl⟩ := hw
    clear is zy yy vy lx cx0 cx1 cx2 fx ly cy0 cy1 cy2 fy
    have Px := Px.ext hb
    have Py := Py.ext hb
    have E := ext_trans E hb
    clear hb
    obtain ⟨lx, cx0, cx1, cx2, fx⟩ := id Px
    obtain ⟨ly, cy0, cy1, cy2, fy⟩ := id Py
    go_wp2_with fail
    refine (n_any _ _).mono ?_
    rintro e W8 ⟨rfl, hb⟩
    clear lx cx0 cx1 cx2 fx ly cy0 cy1 cy2 fy
    have Px := (Px).ext hb
    have Py := (Py).ext hb
    have E := ext_trans (E) hb
    clear hb
    obtain ⟨lx, cx0, cx1, cx2, fx⟩ := id Px
    obtain ⟨ly, cy0, cy1, cy2, fy⟩ := id Py
    go_wp2_with fail
    refine (n_any _ _).mono ?_
    rintro e W9 ⟨rfl, hb⟩
    clear lx cx0 cx1 cx2 fx ly cy0 cy1 cy2 fy
    have Px := (Px).ext hb
    have Py := (Py).ext hb
    have E := ext_trans (E) hb
    clear hb
    obtain ⟨lx, cx0, cx1, cx2, fx⟩ := id Px
    obtain ⟨ly, cy0, cy1, cy2, fy⟩ := id Py
    go_wp2_with fail
    refine (mul_any (num a) (num 0) _ Ha.out Hb.out).mono ?_
    rintro e W10 ⟨rfl, hb⟩
    rw [H6.out]
    clear lx cx0 cx1 cx2 fx ly cy0 cy1 cy2 fy
    have Px := (Px).ext hb
    have Py := (Py).ext hb
    have E := ext_trans (E) hb
    clear hb
    obtain ⟨lx, cx0, cx1, cx2, fx⟩ := id Px
    obtain ⟨ly, cy0, cy1, cy2, fy⟩ := id Py
    have gz : w.heap.size ≤ W10.heap.size := E.size
    have nxz : W4.heap.size ≠ W10.heap.size := Nat.ne_of_lt Px.lt
    have nyz : bky ≠ W10.heap.size := Nat.ne_of_lt Py.lt
    go_wp2_with fail
    refine (n_any _ _).mono ?_
    rintro e W11 ⟨rfl, hb⟩
    clear lx cx0 cx1 cx2 fx ly cy0 cy1 cy2 fy
    have Px := (((Px).alloc _)).ext hb
    have Py := (((Py).alloc _)).ext hb
    have Pz := (Box.new _ (1) (0) (⟨#[]⟩) _).ext hb
    have E := ext_trans (ext_alloc (E) _) hb
    clear hb
    obtain ⟨lx, cx0, cx1, cx2, fx⟩ := id Px
    obtain ⟨ly, cy0, cy1, cy2, fy⟩ := id Py
    obtain ⟨lz, cz0, cz1, cz2, fz⟩ := id Pz
    go_wp2_with fail
    refine (neg_any (num a) _ Ha.out).mono ?_
    rintro e W12 ⟨rfl, hb⟩
    rw [H8.out]
    clear lx cx0 cx1 cx2 fx ly cy0 cy1 cy2 fy lz cz0 cz1 cz2 fz
    have Px := (Px).ext hb
    have Py := (Py).ext hb
    have Pz := (Pz).ext hb
    have E := ext_trans (E) hb
    clear hb
    obtain ⟨lx, cx0, cx1, cx2, fx⟩ := id Px
    obtain ⟨ly, cy0, cy1, cy2, fy⟩ := id Py
    obtain ⟨lz, cz0, cz1, cz2, fz⟩ := id Pz
    have gu : w.heap.size ≤ W12.heap.size := E.size
    have nxu : W4.heap.size ≠ W12.heap.size := Nat.ne_of_lt Px.lt
    have nyu : bky ≠ W12.heap.size := Nat.ne_of_lt Py.lt
    have nzu : W10.heap.size ≠ W12.heap.size := Nat.ne_of_lt Pz.lt
    go_wp2_with fail
    refine (neg_any (num c) _ Hc.out).mono ?_
    rintro e W13 ⟨rfl, hb⟩
    rw [H9.out]
    clear lx cx0 cx1 cx2 fx ly cy0 cy1 cy2 fy lz cz0 cz1 cz2 fz
    have Px := (((Px).alloc _)).ext hb
    have Py := (((Py).alloc _)).ext hb
    have Pz := (((Pz).alloc _)).ext hb
    have Pu := (Box.new _ (1) (c) (⟨#[]⟩) _).ext hb
    have E := ext_trans (ext_alloc (E) _) hb
    clear hb
    obtain ⟨lx, cx0, cx1, cx2, fx⟩ := id Px
    obtain ⟨ly, cy0, cy1, cy2, fy⟩ := id Py
    obtain ⟨lz, cz0, cz1, cz2, fz⟩ := id Pz
    obtain ⟨lu, cu0, cu1, cu2, fu⟩ := id Pu
    have gt : w.heap.size ≤ W13.heap.size := E.size
    have nxt : W4.heap.size ≠ W13.heap.size := Nat.ne_of_lt Px.lt
    have nyt : bky ≠ W13.heap.size := Nat.ne_of_lt Py.lt
    have nzt : W10.heap.size ≠ W13.heap.size := Nat.ne_of_lt Pz.lt
    have nut : W12.heap.size ≠ W13.heap.size := Nat.ne_of_lt Pu.lt
    go_wp2_with fail
    clear lx cx0 cx1 cx2 fx ly cy0 cy1 cy2 fy lz cz0 cz1 cz2 fz lu cu0 cu1 cu2 fu
    have Px := Px.alloc (.cells #[.int .i64 (1), .int .i64 (a), .string (⟨#[]⟩)] 23)
    have Py := Py.alloc (.cells #[.int .i64 (1), .int .i64 (a), .string (⟨#[]⟩)] 23)
    have Pz := Pz.alloc (.cells #[.int .i64 (1), .int .i64 (a), .string (⟨#[]⟩)] 23)
    have Pu := Pu.alloc (.cells #[.int .i64 (1), .int .i64 (a), .string (⟨#[]⟩)] 23)
    have Pt := Box.new W13 (1) (a) (⟨#[]⟩) 23
    have E := ext_alloc E (.cells #[.int .i64 (1), .int .i64 (a), .string (⟨#[]⟩)] 23)
    generalize (W13.alloc (.cells #[.int .i64 (1), .int .i64 (a), .string (⟨#[]⟩)] 23)) = G5 at *
    obtain ⟨lx, cx0, cx1, cx2, fx⟩ := id Px
    obtain ⟨ly, cy0, cy1, cy2, fy⟩ := id Py
    obtain ⟨lz, cz0, cz1, cz2, fz⟩ := id Pz
    obtain ⟨lu, cu0, cu1, cu2, fu⟩ := id Pu
    obtain ⟨lt, ct0, ct1, ct2, ft⟩ := id Pt
    have zt := fun (x : After G5) => (x.cell W13.heap.size 0 lt).trans ct0
    have yt := fun (x : After G5) => (x.cell W13.heap.size 1 lt).trans ct1
    have vt := fun (x : After G5) => (x.cell W13.heap.size 2 lt).trans ct2
    have is := After.some G5
    refine wp_region_after (by kernel_rfl) (by kernel_rfl) ?_
    repeat (quiet_step ((first | (go_at_call 33; exact calls_after (n_any _ _)))))
    refine wpQuiet_nil ?_
    intro _ hw
    obtain ⟨⟨W14, hb⟩, rfl⟩ := hw
    clear is zt yt vt lx cx0 cx1 cx2 fx ly cy0 cy1 cy2 fy lz cz0 cz1 cz2 fz lu cu0 cu1 cu2 fu lt ct0 ct1 ct2 ft
    have Px := Px.ext hb
    have Py := Py.ext hb
    have Pz := Pz.ext hb
    have Pu := Pu.ext hb
    have Pt := Pt.ext hb
    have E := ext_trans E hb
    clear hb
    obtain ⟨lx, cx0, cx1, cx2, fx⟩ := id Px
    obtain ⟨ly, cy0, cy1, cy2, fy⟩ := id Py
    obtain ⟨lz, cz0, cz1, cz2, fz⟩ := id Pz
    obtain ⟨lu, cu0, cu1, cu2, fu⟩ := id Pu
    obtain ⟨lt, ct0, ct1, ct2, ft⟩ := id Pt
    all_goals go_wp2_with fail
    all_goals go_ret
    all_goals refine ⟨by first | rfl | (simp; done) | (simp; omega), ?_⟩
    all_goals (repeat (first | exact ext_refl _ | assumption | (refine ext_alloc ?_ _) | (refine ext_drewN ?_ _) | refine ext_drew ?_ | (refine ext_set (by first | (simp; done) | (simp; omega)) _ ?_) | (refine ext_trans ?_ (by assumption)))))

set_option maxHeartbeats 8000000 in
theorem back_fit_zero_least (s : Int) (w : World) (ha : inR (-9223372036854775808) = true) (hb : inR 0 = true) (hs : inR s = true) (h4 : arith 4 (num (-9223372036854775808)) (num 0) = (num s, 0)) (h5 : arith 5 (num s) (num 0) = (num (-9223372036854775808), 0)) (h6 : arith 6 (num (-9223372036854775808)) (num 0) = (num 0, 0)) (h8 : arith 5 (num 0) (num (-9223372036854775808)) = (nul, 3)) (h9 : arith 5 (num 0) nul = (nul, 0)) : Calls Try.prog 6 #[.int .i64 (-9223372036854775808), .int .i64 0] w fun e w' => e = .returned (.bool true) ∧ Below w.heap.size w w' := by
  have Ha := Lib.hid ha
  have Hb := Lib.hid hb
  have H4 := Lib.hid h4
  have Hs := Lib.hid hs
  have H5 := Lib.hid h5
  have H6 := Lib.hid h6
  have H8 := Lib.hid h8
  have H9 := Lib.hid h9
  clear ha hb h4 hs h5 h6 h8 h9
  have E := ext_refl w
  go_enter Try.func6, Try.ntmps6
  go_wp2_with fail
  refine (examples_any _).mono ?_
  rintro e W1 ⟨rfl, hb⟩
  have E := ext_trans E hb
  clear hb
  go_wp2_with fail
  refine (n_any _ _).mono ?_
  rintro e W2 ⟨rfl, hb⟩
  have E := ext_trans E hb
  clear hb
  go_wp2_with fail
  refine (n_any _ _).mono ?_
  rintro e W3 ⟨rfl, hb⟩
  have E := ext_trans E hb
  clear hb
  go_wp2_with fail
  refine (add_any (num (-9223372036854775808)) (num 0) _ Ha.out Hb.out).mono ?_
  rintro e W4 ⟨rfl, hb⟩
  rw [H4.out]
  have E := ext_trans E hb
  clear hb
  have gx : w.heap.size ≤ W4.heap.size := E.size
  go_wp2_with fail
  have Px := Box.new W4 (1) (s) (⟨#[]⟩) 23
  have E := ext_alloc E (.cells #[.int .i64 (1), .int .i64 (s), .string (⟨#[]⟩)] 23)
  generalize (W4.alloc (.cells #[.int .i64 (1), .int .i64 (s), .string (⟨#[]⟩)] 23)) = G1 at *
  obtain ⟨lx, cx0, cx1, cx2, fx⟩ := id Px
  go_region_held3 (fun w' => w'.cell? ⟨W4.heap.size, 0, none⟩ = some (.int .i64 (1)) ∧ w'.cell? ⟨W4.heap.size, 1, none⟩ = some (.int .i64 (s)) ∧ w'.cell? ⟨W4.heap.size, 2, none⟩ = some (.string (⟨#[]⟩)))
    (go_keep) (first | (go_at_call 33; go_must (refine (n_any _ _).mono ?_; rintro e W5 ⟨rfl, hb⟩; (first | (have Px := Px.drew.ext hb; have E := ext_trans (ext_drew (E)) hb) | (have Py := (Box.new G1 0 0 ⟨#[]⟩ 23).drew.ext hb; have gy : w.heap.size ≤ G1.heap.size := E.size; have nxy := Nat.ne_of_lt Px.lt; have mxy := Ne.symm nxy; have Px := (Px.alloc _).drew.ext hb; have E := ext_trans (ext_drew (ext_alloc E _)) hb)); clear hb; obtain ⟨lx, cx0, cx1, cx2, fx⟩ := id Px; (try obtain ⟨ly, cy0, cy1, cy2, fy⟩ := id Py))) | (go_at_call 13; go_must (refine (sub_any (num s) (num 0) _ Hs.out Hb.out).mono ?_; rintro e W6 ⟨rfl, hb⟩; rw [H5.out]; (first | (have Py := Py.ext hb; have Px := Px.ext hb; have E := ext_trans (E) hb) | (have Px := Px.ext hb; have E := ext_trans (E) hb) | (have Py := (Box.new W5 0 0 ⟨#[]⟩ 23).ext hb; have gy : w.heap.size ≤ W5.heap.size := E.size; have nxy := Nat.ne_of_lt Px.lt; have mxy := Ne.symm nxy; have Px := (Px.alloc _).ext hb; have E := ext_trans (ext_alloc E _) hb)); clear hb; obtain ⟨lx, cx0, cx1, cx2, fx⟩ := id Px; (try obtain ⟨ly, cy0, cy1, cy2, fy⟩ := id Py))))
  all_goals go_wp2_with fail
  all_goals first
    | (have Py : Box _ G1.heap.size _ := Py.set (1) ((-9223372036854775808)) (⟨#[]⟩)
       clear lx cx0 cx1 cx2 fx ly cy0 cy1 cy2 fy
       have Px := Px.far3 nxy (.int .i64 (1)) (.int .i64 ((-9223372036854775808))) (.string (⟨#[]⟩))
       have E := ext_set3 gy (.int .i64 (1)) (.int .i64 ((-9223372036854775808))) (.string (⟨#[]⟩)) E
       generalize (((W6.setCell ⟨G1.heap.size, 0, none⟩ (.int .i64 (1))).setCell ⟨G1.heap.size, 1, none⟩ (.int .i64 ((-9223372036854775808)))).setCell ⟨G1.heap.size, 2, none⟩ (.string (⟨#[]⟩))) = G2 at *
       generalize G1.heap.size = bky at *)
    | (have Py : Box _ W5.heap.size _ := Py.set (1) ((-9223372036854775808)) (⟨#[]⟩)
       clear lx cx0 cx1 cx2 fx ly cy0 cy1 cy2 fy
       have Px := Px.far3 nxy (.int .i64 (1)) (.int .i64 ((-9223372036854775808))) (.string (⟨#[]⟩))
       have E := ext_set3 gy (.int .i64 (1)) (.int .i64 ((-9223372036854775808))) (.string (⟨#[]⟩)) E
       generalize (((W6.setCell ⟨W5.heap.size, 0, none⟩ (.int .i64 (1))).setCell ⟨W5.heap.size, 1, none⟩ (.int .i64 ((-9223372036854775808)))).setCell ⟨W5.heap.size, 2, none⟩ (.string (⟨#[]⟩))) = G2 at *
       generalize W5.heap.size = bky at *)
    | (clear lx cx0 cx1 cx2 fx
       have gy : w.heap.size ≤ W6.heap.size := E.size
       have nxy := Nat.ne_of_lt Px.lt
       have Px := Px.alloc (.cells #[.int .i64 (1), .int .i64 ((-9223372036854775808)), .string (⟨#[]⟩)] 23)
       have Py := Box.new W6 (1) ((-9223372036854775808)) (⟨#[]⟩) 23
       have E := ext_alloc E (.cells #[.int .i64 (1), .int .i64 ((-9223372036854775808)), .string (⟨#[]⟩)] 23)
       generalize (W6.alloc (.cells #[.int .i64 (1), .int .i64 ((-9223372036854775808)), .string (⟨#[]⟩)] 23)) = G2 at *
       generalize W6.heap.size = bky at *)
  all_goals obtain ⟨lx, cx0, cx1, cx2, fx⟩ := id Px
  all_goals obtain ⟨ly, cy0, cy1, cy2, fy⟩ := id Py
  all_goals (
    have zy := fun (x : After G2) => (x.cell bky 0 ly).trans cy0
    have yy := fun (x : After G2) => (x.cell bky 1 ly).trans cy1
    have vy := fun (x : After G2) => (x.cell bky 2 ly).trans cy2
    have is := After.some G2
    refine wp_region_after (by kernel_rfl) (by kernel_rfl) ?_
    repeat (quiet_step ((first | (go_at_call 33; exact calls_after (n_any _ _)))))
    refine wpQuiet_nil ?_
    intro _ hw
    obtain ⟨⟨W7, hb⟩, rfl⟩ := hw
    clear is zy yy vy lx cx0 cx1 cx2 fx ly cy0 cy1 cy2 fy
    have Px := Px.ext hb
    have Py := Py.ext hb
    have E := ext_trans E hb
    clear hb
    obtain ⟨lx, cx0, cx1, cx2, fx⟩ := id Px
    obtain ⟨ly, cy0, cy1, cy2, fy⟩ := id Py
    go_wp2_with fail
    refine (n_any _ _).mono ?_
    rintro e W8 ⟨rfl, hb⟩
    clear lx cx0 cx1 cx2 fx ly cy0 cy1 cy2 fy
    have Px := (Px).ext hb
    have Py := (Py).ext hb
    have E := ext_trans (E) hb
    clear hb
    obtain ⟨lx, cx0, cx1, cx2, fx⟩ := id Px
    obtain ⟨ly, cy0, cy1, cy2, fy⟩ := id Py
    go_wp2_with fail
    refine (n_any _ _).mono ?_
    rintro e W9 ⟨rfl, hb⟩
    clear lx cx0 cx1 cx2 fx ly cy0 cy1 cy2 fy
    have Px := (Px).ext hb
    have Py := (Py).ext hb
    have E := ext_trans (E) hb
    clear hb
    obtain ⟨lx, cx0, cx1, cx2, fx⟩ := id Px
    obtain ⟨ly, cy0, cy1, cy2, fy⟩ := id Py
    go_wp2_with fail
    refine (mul_any (num (-9223372036854775808)) (num 0) _ Ha.out Hb.out).mono ?_
    rintro e W10 ⟨rfl, hb⟩
    rw [H6.out]
    clear lx cx0 cx1 cx2 fx ly cy0 cy1 cy2 fy
    have Px := (Px).ext hb
    have Py := (Py).ext hb
    have E := ext_trans (E) hb
    clear hb
    obtain ⟨lx, cx0, cx1, cx2, fx⟩ := id Px
    obtain ⟨ly, cy0, cy1, cy2, fy⟩ := id Py
    have gz : w.heap.size ≤ W10.heap.size := E.size
    have nxz : W4.heap.size ≠ W10.heap.size := Nat.ne_of_lt Px.lt
    have nyz : bky ≠ W10.heap.size := Nat.ne_of_lt Py.lt
    go_wp2_with fail
    refine (n_any _ _).mono ?_
    rintro e W11 ⟨rfl, hb⟩
    clear lx cx0 cx1 cx2 fx ly cy0 cy1 cy2 fy
    have Px := (((Px).alloc _)).ext hb
    have Py := (((Py).alloc _)).ext hb
    have Pz := (Box.new _ (1) (0) (⟨#[]⟩) _).ext hb
    have E := ext_trans (ext_alloc (E) _) hb
    clear hb
    obtain ⟨lx, cx0, cx1, cx2, fx⟩ := id Px
    obtain ⟨ly, cy0, cy1, cy2, fy⟩ := id Py
    obtain ⟨lz, cz0, cz1, cz2, fz⟩ := id Pz
    go_wp2_with fail
    refine (neg_any (num (-9223372036854775808)) _ Ha.out).mono ?_
    rintro e W12 ⟨rfl, hb⟩
    rw [H8.out]
    clear lx cx0 cx1 cx2 fx ly cy0 cy1 cy2 fy lz cz0 cz1 cz2 fz
    have Px := (Px).ext hb
    have Py := (Py).ext hb
    have Pz := (Pz).ext hb
    have E := ext_trans (E) hb
    clear hb
    obtain ⟨lx, cx0, cx1, cx2, fx⟩ := id Px
    obtain ⟨ly, cy0, cy1, cy2, fy⟩ := id Py
    obtain ⟨lz, cz0, cz1, cz2, fz⟩ := id Pz
    have gu : w.heap.size ≤ W12.heap.size := E.size
    have nxu : W4.heap.size ≠ W12.heap.size := Nat.ne_of_lt Px.lt
    have nyu : bky ≠ W12.heap.size := Nat.ne_of_lt Py.lt
    have nzu : W10.heap.size ≠ W12.heap.size := Nat.ne_of_lt Pz.lt
    go_wp2_with fail
    refine (neg_any nul _ (by decide)).mono ?_
    rintro e W13 ⟨rfl, hb⟩
    rw [H9.out]
    clear lx cx0 cx1 cx2 fx ly cy0 cy1 cy2 fy lz cz0 cz1 cz2 fz
    have Px := (((Px).alloc _)).ext hb
    have Py := (((Py).alloc _)).ext hb
    have Pz := (((Pz).alloc _)).ext hb
    have Pu := (Box.new _ (0) (0) (⟨#[]⟩) _).ext hb
    have E := ext_trans (ext_alloc (E) _) hb
    clear hb
    obtain ⟨lx, cx0, cx1, cx2, fx⟩ := id Px
    obtain ⟨ly, cy0, cy1, cy2, fy⟩ := id Py
    obtain ⟨lz, cz0, cz1, cz2, fz⟩ := id Pz
    obtain ⟨lu, cu0, cu1, cu2, fu⟩ := id Pu
    have gt : w.heap.size ≤ W13.heap.size := E.size
    have nxt : W4.heap.size ≠ W13.heap.size := Nat.ne_of_lt Px.lt
    have nyt : bky ≠ W13.heap.size := Nat.ne_of_lt Py.lt
    have nzt : W10.heap.size ≠ W13.heap.size := Nat.ne_of_lt Pz.lt
    have nut : W12.heap.size ≠ W13.heap.size := Nat.ne_of_lt Pu.lt
    go_wp2_with fail
    clear lx cx0 cx1 cx2 fx ly cy0 cy1 cy2 fy lz cz0 cz1 cz2 fz lu cu0 cu1 cu2 fu
    have Px := Px.alloc (.cells #[.int .i64 (0), .int .i64 (0), .string (⟨#[]⟩)] 23)
    have Py := Py.alloc (.cells #[.int .i64 (0), .int .i64 (0), .string (⟨#[]⟩)] 23)
    have Pz := Pz.alloc (.cells #[.int .i64 (0), .int .i64 (0), .string (⟨#[]⟩)] 23)
    have Pu := Pu.alloc (.cells #[.int .i64 (0), .int .i64 (0), .string (⟨#[]⟩)] 23)
    have Pt := Box.new W13 (0) (0) (⟨#[]⟩) 23
    have E := ext_alloc E (.cells #[.int .i64 (0), .int .i64 (0), .string (⟨#[]⟩)] 23)
    generalize (W13.alloc (.cells #[.int .i64 (0), .int .i64 (0), .string (⟨#[]⟩)] 23)) = G5 at *
    obtain ⟨lx, cx0, cx1, cx2, fx⟩ := id Px
    obtain ⟨ly, cy0, cy1, cy2, fy⟩ := id Py
    obtain ⟨lz, cz0, cz1, cz2, fz⟩ := id Pz
    obtain ⟨lu, cu0, cu1, cu2, fu⟩ := id Pu
    obtain ⟨lt, ct0, ct1, ct2, ft⟩ := id Pt
    go_quiet (fail)
    go_wp2_with fail
    all_goals go_ret
    all_goals refine ⟨by first | rfl | (simp; done) | (simp; omega), ?_⟩
    all_goals (repeat (first | exact ext_refl _ | assumption | (refine ext_alloc ?_ _) | (refine ext_drewN ?_ _) | refine ext_drew ?_ | (refine ext_set (by first | (simp; done) | (simp; omega)) _ ?_) | (refine ext_trans ?_ (by assumption)))))

set_option maxHeartbeats 8000000 in
theorem back_fit_over_fit (a b s c : Int) (w : World) (ha : inR a = true) (hb : inR b = true) (hs : inR s = true) (h4 : arith 4 (num a) (num b) = (num s, 0)) (h5 : arith 5 (num s) (num b) = (num a, 0)) (h6 : arith 6 (num a) (num b) = (nul, 3)) (hc : inR c = true) (h8 : arith 5 (num 0) (num a) = (num c, 0)) (h9 : arith 5 (num 0) (num c) = (num a, 0)) : Calls Try.prog 6 #[.int .i64 a, .int .i64 b] w fun e w' => e = .returned (.bool true) ∧ Below w.heap.size w w' := by
  have Ha := Lib.hid ha
  have Hb := Lib.hid hb
  have H4 := Lib.hid h4
  have Hs := Lib.hid hs
  have H5 := Lib.hid h5
  have H6 := Lib.hid h6
  have Hc := Lib.hid hc
  have H8 := Lib.hid h8
  have H9 := Lib.hid h9
  clear ha hb h4 hs h5 h6 hc h8 h9
  have E := ext_refl w
  go_enter Try.func6, Try.ntmps6
  go_wp2_with fail
  refine (examples_any _).mono ?_
  rintro e W1 ⟨rfl, hb⟩
  have E := ext_trans E hb
  clear hb
  go_wp2_with fail
  refine (n_any _ _).mono ?_
  rintro e W2 ⟨rfl, hb⟩
  have E := ext_trans E hb
  clear hb
  go_wp2_with fail
  refine (n_any _ _).mono ?_
  rintro e W3 ⟨rfl, hb⟩
  have E := ext_trans E hb
  clear hb
  go_wp2_with fail
  refine (add_any (num a) (num b) _ Ha.out Hb.out).mono ?_
  rintro e W4 ⟨rfl, hb⟩
  rw [H4.out]
  have E := ext_trans E hb
  clear hb
  have gx : w.heap.size ≤ W4.heap.size := E.size
  go_wp2_with fail
  have Px := Box.new W4 (1) (s) (⟨#[]⟩) 23
  have E := ext_alloc E (.cells #[.int .i64 (1), .int .i64 (s), .string (⟨#[]⟩)] 23)
  generalize (W4.alloc (.cells #[.int .i64 (1), .int .i64 (s), .string (⟨#[]⟩)] 23)) = G1 at *
  obtain ⟨lx, cx0, cx1, cx2, fx⟩ := id Px
  go_region_held3 (fun w' => w'.cell? ⟨W4.heap.size, 0, none⟩ = some (.int .i64 (1)) ∧ w'.cell? ⟨W4.heap.size, 1, none⟩ = some (.int .i64 (s)) ∧ w'.cell? ⟨W4.heap.size, 2, none⟩ = some (.string (⟨#[]⟩)))
    (go_keep) (first | (go_at_call 33; go_must (refine (n_any _ _).mono ?_; rintro e W5 ⟨rfl, hb⟩; (first | (have Px := Px.drew.ext hb; have E := ext_trans (ext_drew (E)) hb) | (have Py := (Box.new G1 0 0 ⟨#[]⟩ 23).drew.ext hb; have gy : w.heap.size ≤ G1.heap.size := E.size; have nxy := Nat.ne_of_lt Px.lt; have mxy := Ne.symm nxy; have Px := (Px.alloc _).drew.ext hb; have E := ext_trans (ext_drew (ext_alloc E _)) hb)); clear hb; obtain ⟨lx, cx0, cx1, cx2, fx⟩ := id Px; (try obtain ⟨ly, cy0, cy1, cy2, fy⟩ := id Py))) | (go_at_call 13; go_must (refine (sub_any (num s) (num b) _ Hs.out Hb.out).mono ?_; rintro e W6 ⟨rfl, hb⟩; rw [H5.out]; (first | (have Py := Py.ext hb; have Px := Px.ext hb; have E := ext_trans (E) hb) | (have Px := Px.ext hb; have E := ext_trans (E) hb) | (have Py := (Box.new W5 0 0 ⟨#[]⟩ 23).ext hb; have gy : w.heap.size ≤ W5.heap.size := E.size; have nxy := Nat.ne_of_lt Px.lt; have mxy := Ne.symm nxy; have Px := (Px.alloc _).ext hb; have E := ext_trans (ext_alloc E _) hb)); clear hb; obtain ⟨lx, cx0, cx1, cx2, fx⟩ := id Px; (try obtain ⟨ly, cy0, cy1, cy2, fy⟩ := id Py))))
  all_goals go_wp2_with fail
  all_goals first
    | (have Py : Box _ G1.heap.size _ := Py.set (1) (a) (⟨#[]⟩)
       clear lx cx0 cx1 cx2 fx ly cy0 cy1 cy2 fy
       have Px := Px.far3 nxy (.int .i64 (1)) (.int .i64 (a)) (.string (⟨#[]⟩))
       have E := ext_set3 gy (.int .i64 (1)) (.int .i64 (a)) (.string (⟨#[]⟩)) E
       generalize (((W6.setCell ⟨G1.heap.size, 0, none⟩ (.int .i64 (1))).setCell ⟨G1.heap.size, 1, none⟩ (.int .i64 (a))).setCell ⟨G1.heap.size, 2, none⟩ (.string (⟨#[]⟩))) = G2 at *
       generalize G1.heap.size = bky at *)
    | (have Py : Box _ W5.heap.size _ := Py.set (1) (a) (⟨#[]⟩)
       clear lx cx0 cx1 cx2 fx ly cy0 cy1 cy2 fy
       have Px := Px.far3 nxy (.int .i64 (1)) (.int .i64 (a)) (.string (⟨#[]⟩))
       have E := ext_set3 gy (.int .i64 (1)) (.int .i64 (a)) (.string (⟨#[]⟩)) E
       generalize (((W6.setCell ⟨W5.heap.size, 0, none⟩ (.int .i64 (1))).setCell ⟨W5.heap.size, 1, none⟩ (.int .i64 (a))).setCell ⟨W5.heap.size, 2, none⟩ (.string (⟨#[]⟩))) = G2 at *
       generalize W5.heap.size = bky at *)
    | (clear lx cx0 cx1 cx2 fx
       have gy : w.heap.size ≤ W6.heap.size := E.size
       have nxy := Nat.ne_of_lt Px.lt
       have Px := Px.alloc (.cells #[.int .i64 (1), .int .i64 (a), .string (⟨#[]⟩)] 23)
       have Py := Box.new W6 (1) (a) (⟨#[]⟩) 23
       have E := ext_alloc E (.cells #[.int .i64 (1), .int .i64 (a), .string (⟨#[]⟩)] 23)
       generalize (W6.alloc (.cells #[.int .i64 (1), .int .i64 (a), .string (⟨#[]⟩)] 23)) = G2 at *
       generalize W6.heap.size = bky at *)
  all_goals obtain ⟨lx, cx0, cx1, cx2, fx⟩ := id Px
  all_goals obtain ⟨ly, cy0, cy1, cy2, fy⟩ := id Py
  all_goals (
    have zy := fun (x : After G2) => (x.cell bky 0 ly).trans cy0
    have yy := fun (x : After G2) => (x.cell bky 1 ly).trans cy1
    have vy := fun (x : After G2) => (x.cell bky 2 ly).trans cy2
    have is := After.some G2
    refine wp_region_after (by kernel_rfl) (by kernel_rfl) ?_
    repeat (quiet_step ((first | (go_at_call 33; exact calls_after (n_any _ _)))))
    refine wpQuiet_nil ?_
    intro _ hw
    obtain ⟨⟨W7, hb⟩, rfl⟩ := hw
    clear is zy yy vy lx cx0 cx1 cx2 fx ly cy0 cy1 cy2 fy
    have Px := Px.ext hb
    have Py := Py.ext hb
    have E := ext_trans E hb
    clear hb
    obtain ⟨lx, cx0, cx1, cx2, fx⟩ := id Px
    obtain ⟨ly, cy0, cy1, cy2, fy⟩ := id Py
    go_wp2_with fail
    refine (n_any _ _).mono ?_
    rintro e W8 ⟨rfl, hb⟩
    clear lx cx0 cx1 cx2 fx ly cy0 cy1 cy2 fy
    have Px := (Px).ext hb
    have Py := (Py).ext hb
    have E := ext_trans (E) hb
    clear hb
    obtain ⟨lx, cx0, cx1, cx2, fx⟩ := id Px
    obtain ⟨ly, cy0, cy1, cy2, fy⟩ := id Py
    go_wp2_with fail
    refine (n_any _ _).mono ?_
    rintro e W9 ⟨rfl, hb⟩
    clear lx cx0 cx1 cx2 fx ly cy0 cy1 cy2 fy
    have Px := (Px).ext hb
    have Py := (Py).ext hb
    have E := ext_trans (E) hb
    clear hb
    obtain ⟨lx, cx0, cx1, cx2, fx⟩ := id Px
    obtain ⟨ly, cy0, cy1, cy2, fy⟩ := id Py
    go_wp2_with fail
    refine (mul_any (num a) (num b) _ Ha.out Hb.out).mono ?_
    rintro e W10 ⟨rfl, hb⟩
    rw [H6.out]
    clear lx cx0 cx1 cx2 fx ly cy0 cy1 cy2 fy
    have Px := (Px).ext hb
    have Py := (Py).ext hb
    have E := ext_trans (E) hb
    clear hb
    obtain ⟨lx, cx0, cx1, cx2, fx⟩ := id Px
    obtain ⟨ly, cy0, cy1, cy2, fy⟩ := id Py
    have gz : w.heap.size ≤ W10.heap.size := E.size
    have nxz : W4.heap.size ≠ W10.heap.size := Nat.ne_of_lt Px.lt
    have nyz : bky ≠ W10.heap.size := Nat.ne_of_lt Py.lt
    go_wp2_with fail
    refine (n_any _ _).mono ?_
    rintro e W11 ⟨rfl, hb⟩
    clear lx cx0 cx1 cx2 fx ly cy0 cy1 cy2 fy
    have Px := (((Px).alloc _)).ext hb
    have Py := (((Py).alloc _)).ext hb
    have Pz := (Box.new _ (0) (0) (⟨#[]⟩) _).ext hb
    have E := ext_trans (ext_alloc (E) _) hb
    clear hb
    obtain ⟨lx, cx0, cx1, cx2, fx⟩ := id Px
    obtain ⟨ly, cy0, cy1, cy2, fy⟩ := id Py
    obtain ⟨lz, cz0, cz1, cz2, fz⟩ := id Pz
    go_wp2_with fail
    refine (neg_any (num a) _ Ha.out).mono ?_
    rintro e W12 ⟨rfl, hb⟩
    rw [H8.out]
    clear lx cx0 cx1 cx2 fx ly cy0 cy1 cy2 fy lz cz0 cz1 cz2 fz
    have Px := (Px).ext hb
    have Py := (Py).ext hb
    have Pz := (Pz).ext hb
    have E := ext_trans (E) hb
    clear hb
    obtain ⟨lx, cx0, cx1, cx2, fx⟩ := id Px
    obtain ⟨ly, cy0, cy1, cy2, fy⟩ := id Py
    obtain ⟨lz, cz0, cz1, cz2, fz⟩ := id Pz
    have gu : w.heap.size ≤ W12.heap.size := E.size
    have nxu : W4.heap.size ≠ W12.heap.size := Nat.ne_of_lt Px.lt
    have nyu : bky ≠ W12.heap.size := Nat.ne_of_lt Py.lt
    have nzu : W10.heap.size ≠ W12.heap.size := Nat.ne_of_lt Pz.lt
    go_wp2_with fail
    refine (neg_any (num c) _ Hc.out).mono ?_
    rintro e W13 ⟨rfl, hb⟩
    rw [H9.out]
    clear lx cx0 cx1 cx2 fx ly cy0 cy1 cy2 fy lz cz0 cz1 cz2 fz
    have Px := (((Px).alloc _)).ext hb
    have Py := (((Py).alloc _)).ext hb
    have Pz := (((Pz).alloc _)).ext hb
    have Pu := (Box.new _ (1) (c) (⟨#[]⟩) _).ext hb
    have E := ext_trans (ext_alloc (E) _) hb
    clear hb
    obtain ⟨lx, cx0, cx1, cx2, fx⟩ := id Px
    obtain ⟨ly, cy0, cy1, cy2, fy⟩ := id Py
    obtain ⟨lz, cz0, cz1, cz2, fz⟩ := id Pz
    obtain ⟨lu, cu0, cu1, cu2, fu⟩ := id Pu
    have gt : w.heap.size ≤ W13.heap.size := E.size
    have nxt : W4.heap.size ≠ W13.heap.size := Nat.ne_of_lt Px.lt
    have nyt : bky ≠ W13.heap.size := Nat.ne_of_lt Py.lt
    have nzt : W10.heap.size ≠ W13.heap.size := Nat.ne_of_lt Pz.lt
    have nut : W12.heap.size ≠ W13.heap.size := Nat.ne_of_lt Pu.lt
    go_wp2_with fail
    clear lx cx0 cx1 cx2 fx ly cy0 cy1 cy2 fy lz cz0 cz1 cz2 fz lu cu0 cu1 cu2 fu
    have Px := Px.alloc (.cells #[.int .i64 (1), .int .i64 (a), .string (⟨#[]⟩)] 23)
    have Py := Py.alloc (.cells #[.int .i64 (1), .int .i64 (a), .string (⟨#[]⟩)] 23)
    have Pz := Pz.alloc (.cells #[.int .i64 (1), .int .i64 (a), .string (⟨#[]⟩)] 23)
    have Pu := Pu.alloc (.cells #[.int .i64 (1), .int .i64 (a), .string (⟨#[]⟩)] 23)
    have Pt := Box.new W13 (1) (a) (⟨#[]⟩) 23
    have E := ext_alloc E (.cells #[.int .i64 (1), .int .i64 (a), .string (⟨#[]⟩)] 23)
    generalize (W13.alloc (.cells #[.int .i64 (1), .int .i64 (a), .string (⟨#[]⟩)] 23)) = G5 at *
    obtain ⟨lx, cx0, cx1, cx2, fx⟩ := id Px
    obtain ⟨ly, cy0, cy1, cy2, fy⟩ := id Py
    obtain ⟨lz, cz0, cz1, cz2, fz⟩ := id Pz
    obtain ⟨lu, cu0, cu1, cu2, fu⟩ := id Pu
    obtain ⟨lt, ct0, ct1, ct2, ft⟩ := id Pt
    have zt := fun (x : After G5) => (x.cell W13.heap.size 0 lt).trans ct0
    have yt := fun (x : After G5) => (x.cell W13.heap.size 1 lt).trans ct1
    have vt := fun (x : After G5) => (x.cell W13.heap.size 2 lt).trans ct2
    have is := After.some G5
    refine wp_region_after (by kernel_rfl) (by kernel_rfl) ?_
    repeat (quiet_step ((first | (go_at_call 33; exact calls_after (n_any _ _)))))
    refine wpQuiet_nil ?_
    intro _ hw
    obtain ⟨⟨W14, hb⟩, rfl⟩ := hw
    clear is zt yt vt lx cx0 cx1 cx2 fx ly cy0 cy1 cy2 fy lz cz0 cz1 cz2 fz lu cu0 cu1 cu2 fu lt ct0 ct1 ct2 ft
    have Px := Px.ext hb
    have Py := Py.ext hb
    have Pz := Pz.ext hb
    have Pu := Pu.ext hb
    have Pt := Pt.ext hb
    have E := ext_trans E hb
    clear hb
    obtain ⟨lx, cx0, cx1, cx2, fx⟩ := id Px
    obtain ⟨ly, cy0, cy1, cy2, fy⟩ := id Py
    obtain ⟨lz, cz0, cz1, cz2, fz⟩ := id Pz
    obtain ⟨lu, cu0, cu1, cu2, fu⟩ := id Pu
    obtain ⟨lt, ct0, ct1, ct2, ft⟩ := id Pt
    all_goals go_wp2_with fail
    all_goals go_ret
    all_goals refine ⟨by first | rfl | (simp; done) | (simp; omega), ?_⟩
    all_goals (repeat (first | exact ext_refl _ | assumption | (refine ext_alloc ?_ _) | (refine ext_drewN ?_ _) | refine ext_drew ?_ | (refine ext_set (by first | (simp; done) | (simp; omega)) _ ?_) | (refine ext_trans ?_ (by assumption)))))

set_option maxHeartbeats 8000000 in
theorem back_fit_over_least (b s : Int) (w : World) (ha : inR (-9223372036854775808) = true) (hb : inR b = true) (hs : inR s = true) (h4 : arith 4 (num (-9223372036854775808)) (num b) = (num s, 0)) (h5 : arith 5 (num s) (num b) = (num (-9223372036854775808), 0)) (h6 : arith 6 (num (-9223372036854775808)) (num b) = (nul, 3)) (h8 : arith 5 (num 0) (num (-9223372036854775808)) = (nul, 3)) (h9 : arith 5 (num 0) nul = (nul, 0)) : Calls Try.prog 6 #[.int .i64 (-9223372036854775808), .int .i64 b] w fun e w' => e = .returned (.bool true) ∧ Below w.heap.size w w' := by
  have Ha := Lib.hid ha
  have Hb := Lib.hid hb
  have H4 := Lib.hid h4
  have Hs := Lib.hid hs
  have H5 := Lib.hid h5
  have H6 := Lib.hid h6
  have H8 := Lib.hid h8
  have H9 := Lib.hid h9
  clear ha hb h4 hs h5 h6 h8 h9
  have E := ext_refl w
  go_enter Try.func6, Try.ntmps6
  go_wp2_with fail
  refine (examples_any _).mono ?_
  rintro e W1 ⟨rfl, hb⟩
  have E := ext_trans E hb
  clear hb
  go_wp2_with fail
  refine (n_any _ _).mono ?_
  rintro e W2 ⟨rfl, hb⟩
  have E := ext_trans E hb
  clear hb
  go_wp2_with fail
  refine (n_any _ _).mono ?_
  rintro e W3 ⟨rfl, hb⟩
  have E := ext_trans E hb
  clear hb
  go_wp2_with fail
  refine (add_any (num (-9223372036854775808)) (num b) _ Ha.out Hb.out).mono ?_
  rintro e W4 ⟨rfl, hb⟩
  rw [H4.out]
  have E := ext_trans E hb
  clear hb
  have gx : w.heap.size ≤ W4.heap.size := E.size
  go_wp2_with fail
  have Px := Box.new W4 (1) (s) (⟨#[]⟩) 23
  have E := ext_alloc E (.cells #[.int .i64 (1), .int .i64 (s), .string (⟨#[]⟩)] 23)
  generalize (W4.alloc (.cells #[.int .i64 (1), .int .i64 (s), .string (⟨#[]⟩)] 23)) = G1 at *
  obtain ⟨lx, cx0, cx1, cx2, fx⟩ := id Px
  go_region_held3 (fun w' => w'.cell? ⟨W4.heap.size, 0, none⟩ = some (.int .i64 (1)) ∧ w'.cell? ⟨W4.heap.size, 1, none⟩ = some (.int .i64 (s)) ∧ w'.cell? ⟨W4.heap.size, 2, none⟩ = some (.string (⟨#[]⟩)))
    (go_keep) (first | (go_at_call 33; go_must (refine (n_any _ _).mono ?_; rintro e W5 ⟨rfl, hb⟩; (first | (have Px := Px.drew.ext hb; have E := ext_trans (ext_drew (E)) hb) | (have Py := (Box.new G1 0 0 ⟨#[]⟩ 23).drew.ext hb; have gy : w.heap.size ≤ G1.heap.size := E.size; have nxy := Nat.ne_of_lt Px.lt; have mxy := Ne.symm nxy; have Px := (Px.alloc _).drew.ext hb; have E := ext_trans (ext_drew (ext_alloc E _)) hb)); clear hb; obtain ⟨lx, cx0, cx1, cx2, fx⟩ := id Px; (try obtain ⟨ly, cy0, cy1, cy2, fy⟩ := id Py))) | (go_at_call 13; go_must (refine (sub_any (num s) (num b) _ Hs.out Hb.out).mono ?_; rintro e W6 ⟨rfl, hb⟩; rw [H5.out]; (first | (have Py := Py.ext hb; have Px := Px.ext hb; have E := ext_trans (E) hb) | (have Px := Px.ext hb; have E := ext_trans (E) hb) | (have Py := (Box.new W5 0 0 ⟨#[]⟩ 23).ext hb; have gy : w.heap.size ≤ W5.heap.size := E.size; have nxy := Nat.ne_of_lt Px.lt; have mxy := Ne.symm nxy; have Px := (Px.alloc _).ext hb; have E := ext_trans (ext_alloc E _) hb)); clear hb; obtain ⟨lx, cx0, cx1, cx2, fx⟩ := id Px; (try obtain ⟨ly, cy0, cy1, cy2, fy⟩ := id Py))))
  all_goals go_wp2_with fail
  all_goals first
    | (have Py : Box _ G1.heap.size _ := Py.set (1) ((-9223372036854775808)) (⟨#[]⟩)
       clear lx cx0 cx1 cx2 fx ly cy0 cy1 cy2 fy
       have Px := Px.far3 nxy (.int .i64 (1)) (.int .i64 ((-9223372036854775808))) (.string (⟨#[]⟩))
       have E := ext_set3 gy (.int .i64 (1)) (.int .i64 ((-9223372036854775808))) (.string (⟨#[]⟩)) E
       generalize (((W6.setCell ⟨G1.heap.size, 0, none⟩ (.int .i64 (1))).setCell ⟨G1.heap.size, 1, none⟩ (.int .i64 ((-9223372036854775808)))).setCell ⟨G1.heap.size, 2, none⟩ (.string (⟨#[]⟩))) = G2 at *
       generalize G1.heap.size = bky at *)
    | (have Py : Box _ W5.heap.size _ := Py.set (1) ((-9223372036854775808)) (⟨#[]⟩)
       clear lx cx0 cx1 cx2 fx ly cy0 cy1 cy2 fy
       have Px := Px.far3 nxy (.int .i64 (1)) (.int .i64 ((-9223372036854775808))) (.string (⟨#[]⟩))
       have E := ext_set3 gy (.int .i64 (1)) (.int .i64 ((-9223372036854775808))) (.string (⟨#[]⟩)) E
       generalize (((W6.setCell ⟨W5.heap.size, 0, none⟩ (.int .i64 (1))).setCell ⟨W5.heap.size, 1, none⟩ (.int .i64 ((-9223372036854775808)))).setCell ⟨W5.heap.size, 2, none⟩ (.string (⟨#[]⟩))) = G2 at *
       generalize W5.heap.size = bky at *)
    | (clear lx cx0 cx1 cx2 fx
       have gy : w.heap.size ≤ W6.heap.size := E.size
       have nxy := Nat.ne_of_lt Px.lt
       have Px := Px.alloc (.cells #[.int .i64 (1), .int .i64 ((-9223372036854775808)), .string (⟨#[]⟩)] 23)
       have Py := Box.new W6 (1) ((-9223372036854775808)) (⟨#[]⟩) 23
       have E := ext_alloc E (.cells #[.int .i64 (1), .int .i64 ((-9223372036854775808)), .string (⟨#[]⟩)] 23)
       generalize (W6.alloc (.cells #[.int .i64 (1), .int .i64 ((-9223372036854775808)), .string (⟨#[]⟩)] 23)) = G2 at *
       generalize W6.heap.size = bky at *)
  all_goals obtain ⟨lx, cx0, cx1, cx2, fx⟩ := id Px
  all_goals obtain ⟨ly, cy0, cy1, cy2, fy⟩ := id Py
  all_goals (
    have zy := fun (x : After G2) => (x.cell bky 0 ly).trans cy0
    have yy := fun (x : After G2) => (x.cell bky 1 ly).trans cy1
    have vy := fun (x : After G2) => (x.cell bky 2 ly).trans cy2
    have is := After.some G2
    refine wp_region_after (by kernel_rfl) (by kernel_rfl) ?_
    repeat (quiet_step ((first | (go_at_call 33; exact calls_after (n_any _ _)))))
    refine wpQuiet_nil ?_
    intro _ hw
    obtain ⟨⟨W7, hb⟩, rfl⟩ := hw
    clear is zy yy vy lx cx0 cx1 cx2 fx ly cy0 cy1 cy2 fy
    have Px := Px.ext hb
    have Py := Py.ext hb
    have E := ext_trans E hb
    clear hb
    obtain ⟨lx, cx0, cx1, cx2, fx⟩ := id Px
    obtain ⟨ly, cy0, cy1, cy2, fy⟩ := id Py
    go_wp2_with fail
    refine (n_any _ _).mono ?_
    rintro e W8 ⟨rfl, hb⟩
    clear lx cx0 cx1 cx2 fx ly cy0 cy1 cy2 fy
    have Px := (Px).ext hb
    have Py := (Py).ext hb
    have E := ext_trans (E) hb
    clear hb
    obtain ⟨lx, cx0, cx1, cx2, fx⟩ := id Px
    obtain ⟨ly, cy0, cy1, cy2, fy⟩ := id Py
    go_wp2_with fail
    refine (n_any _ _).mono ?_
    rintro e W9 ⟨rfl, hb⟩
    clear lx cx0 cx1 cx2 fx ly cy0 cy1 cy2 fy
    have Px := (Px).ext hb
    have Py := (Py).ext hb
    have E := ext_trans (E) hb
    clear hb
    obtain ⟨lx, cx0, cx1, cx2, fx⟩ := id Px
    obtain ⟨ly, cy0, cy1, cy2, fy⟩ := id Py
    go_wp2_with fail
    refine (mul_any (num (-9223372036854775808)) (num b) _ Ha.out Hb.out).mono ?_
    rintro e W10 ⟨rfl, hb⟩
    rw [H6.out]
    clear lx cx0 cx1 cx2 fx ly cy0 cy1 cy2 fy
    have Px := (Px).ext hb
    have Py := (Py).ext hb
    have E := ext_trans (E) hb
    clear hb
    obtain ⟨lx, cx0, cx1, cx2, fx⟩ := id Px
    obtain ⟨ly, cy0, cy1, cy2, fy⟩ := id Py
    have gz : w.heap.size ≤ W10.heap.size := E.size
    have nxz : W4.heap.size ≠ W10.heap.size := Nat.ne_of_lt Px.lt
    have nyz : bky ≠ W10.heap.size := Nat.ne_of_lt Py.lt
    go_wp2_with fail
    refine (n_any _ _).mono ?_
    rintro e W11 ⟨rfl, hb⟩
    clear lx cx0 cx1 cx2 fx ly cy0 cy1 cy2 fy
    have Px := (((Px).alloc _)).ext hb
    have Py := (((Py).alloc _)).ext hb
    have Pz := (Box.new _ (0) (0) (⟨#[]⟩) _).ext hb
    have E := ext_trans (ext_alloc (E) _) hb
    clear hb
    obtain ⟨lx, cx0, cx1, cx2, fx⟩ := id Px
    obtain ⟨ly, cy0, cy1, cy2, fy⟩ := id Py
    obtain ⟨lz, cz0, cz1, cz2, fz⟩ := id Pz
    go_wp2_with fail
    refine (neg_any (num (-9223372036854775808)) _ Ha.out).mono ?_
    rintro e W12 ⟨rfl, hb⟩
    rw [H8.out]
    clear lx cx0 cx1 cx2 fx ly cy0 cy1 cy2 fy lz cz0 cz1 cz2 fz
    have Px := (Px).ext hb
    have Py := (Py).ext hb
    have Pz := (Pz).ext hb
    have E := ext_trans (E) hb
    clear hb
    obtain ⟨lx, cx0, cx1, cx2, fx⟩ := id Px
    obtain ⟨ly, cy0, cy1, cy2, fy⟩ := id Py
    obtain ⟨lz, cz0, cz1, cz2, fz⟩ := id Pz
    have gu : w.heap.size ≤ W12.heap.size := E.size
    have nxu : W4.heap.size ≠ W12.heap.size := Nat.ne_of_lt Px.lt
    have nyu : bky ≠ W12.heap.size := Nat.ne_of_lt Py.lt
    have nzu : W10.heap.size ≠ W12.heap.size := Nat.ne_of_lt Pz.lt
    go_wp2_with fail
    refine (neg_any nul _ (by decide)).mono ?_
    rintro e W13 ⟨rfl, hb⟩
    rw [H9.out]
    clear lx cx0 cx1 cx2 fx ly cy0 cy1 cy2 fy lz cz0 cz1 cz2 fz
    have Px := (((Px).alloc _)).ext hb
    have Py := (((Py).alloc _)).ext hb
    have Pz := (((Pz).alloc _)).ext hb
    have Pu := (Box.new _ (0) (0) (⟨#[]⟩) _).ext hb
    have E := ext_trans (ext_alloc (E) _) hb
    clear hb
    obtain ⟨lx, cx0, cx1, cx2, fx⟩ := id Px
    obtain ⟨ly, cy0, cy1, cy2, fy⟩ := id Py
    obtain ⟨lz, cz0, cz1, cz2, fz⟩ := id Pz
    obtain ⟨lu, cu0, cu1, cu2, fu⟩ := id Pu
    have gt : w.heap.size ≤ W13.heap.size := E.size
    have nxt : W4.heap.size ≠ W13.heap.size := Nat.ne_of_lt Px.lt
    have nyt : bky ≠ W13.heap.size := Nat.ne_of_lt Py.lt
    have nzt : W10.heap.size ≠ W13.heap.size := Nat.ne_of_lt Pz.lt
    have nut : W12.heap.size ≠ W13.heap.size := Nat.ne_of_lt Pu.lt
    go_wp2_with fail
    clear lx cx0 cx1 cx2 fx ly cy0 cy1 cy2 fy lz cz0 cz1 cz2 fz lu cu0 cu1 cu2 fu
    have Px := Px.alloc (.cells #[.int .i64 (0), .int .i64 (0), .string (⟨#[]⟩)] 23)
    have Py := Py.alloc (.cells #[.int .i64 (0), .int .i64 (0), .string (⟨#[]⟩)] 23)
    have Pz := Pz.alloc (.cells #[.int .i64 (0), .int .i64 (0), .string (⟨#[]⟩)] 23)
    have Pu := Pu.alloc (.cells #[.int .i64 (0), .int .i64 (0), .string (⟨#[]⟩)] 23)
    have Pt := Box.new W13 (0) (0) (⟨#[]⟩) 23
    have E := ext_alloc E (.cells #[.int .i64 (0), .int .i64 (0), .string (⟨#[]⟩)] 23)
    generalize (W13.alloc (.cells #[.int .i64 (0), .int .i64 (0), .string (⟨#[]⟩)] 23)) = G5 at *
    obtain ⟨lx, cx0, cx1, cx2, fx⟩ := id Px
    obtain ⟨ly, cy0, cy1, cy2, fy⟩ := id Py
    obtain ⟨lz, cz0, cz1, cz2, fz⟩ := id Pz
    obtain ⟨lu, cu0, cu1, cu2, fu⟩ := id Pu
    obtain ⟨lt, ct0, ct1, ct2, ft⟩ := id Pt
    go_quiet (fail)
    go_wp2_with fail
    all_goals go_ret
    all_goals refine ⟨by first | rfl | (simp; done) | (simp; omega), ?_⟩
    all_goals (repeat (first | exact ext_refl _ | assumption | (refine ext_alloc ?_ _) | (refine ext_drewN ?_ _) | refine ext_drew ?_ | (refine ext_set (by first | (simp; done) | (simp; omega)) _ ?_) | (refine ext_trans ?_ (by assumption)))))

end Go.Proofs.Ytklbomfcejgbmaa
