/- A part of the proof. -/
import Derived.Test.YtklgoajgchfmeaaGreatDoorKj
import Derived.Test.YtklgoajgchfmeaaGreatDoorValC
import Derived.Test.YtklgoajgchfmeaaGreatDoorValF
import Derived.Test.YtklgoajgchfmeaaGreatDoorKg
import Derived.Test.YtklgoajgchfmeaaGreatDoorKk
set_option linter.unusedVariables false
set_option linter.unusedSimpArgs false
namespace Go.Proofs.YtklgoajgchfmeaaGreatDoor
open Go.RowKit
set_option maxRecDepth 100000
def applyS (op : Int) (a b : Val) : Val × Int :=
  if op = 4 then arith 4 a b else if op = 5 then arith 5 a b else if op = 6 then arith 6 a b else if op = 7 then arith 7 a b else if op = 8 then arith 5 (num 0) a
  else if op = 15 then conn 0 1 a b else if op = 16 then conn 1 0 a b else if op = 17 then notS a else if op = 18 then (tru (bit (a.k == 0)), 0) else testS op a b
structure BV (W : World) (g : Nat) (x : Val) : Prop where
  lt : g < W.heap.size
  c0 : W.cell? ⟨g, 0, none⟩ = some (.int .i64 x.k)
  c1 : W.cell? ⟨g, 1, none⟩ = some (.int .i64 x.n)
  c2 : W.cell? ⟨g, 2, none⟩ = some (.string x.s)
theorem BV.on {W W' : World} {g : Nat} {x : Val} (h : BV W g x) (hb : Below W.heap.size W W') : BV W' g x :=
  ⟨Nat.lt_of_lt_of_le h.lt hb.size, (hb.cell (p := ⟨_, _, none⟩) h.lt).trans h.c0, (hb.cell (p := ⟨_, _, none⟩) h.lt).trans h.c1, (hb.cell (p := ⟨_, _, none⟩) h.lt).trans h.c2⟩
theorem BV.new (W : World) (x : Val) : BV (W.alloc (.cells #[.int .i64 x.k, .int .i64 x.n, .string x.s] 23)) W.heap.size x :=
  ⟨by simp, by simp [go_sem], by simp [go_sem], by simp [go_sem]⟩
theorem ext_val {w W : World} {h : Nat} (hb : Below w.heap.size w W) (hh : w.heap.size ≤ h) (a b : Int) (s : ByteArray) : Below w.heap.size w (((W.setCell ⟨h, 0, none⟩ (.int .i64 a)).setCell ⟨h, 1, none⟩ (.int .i64 b)).setCell ⟨h, 2, none⟩ (.string s)) :=
  ext_set (p := ⟨h, 2, none⟩) hh _ (ext_set (p := ⟨h, 1, none⟩) hh _ (ext_set (p := ⟨h, 0, none⟩) hh _ hb))
set_option maxHeartbeats 2000000 in
theorem nullness_any (x : Val) (w : World) : Calls Tryz.prog 38 #[x.v] w fun e w' => e = .returned (tru (bit (x.k == 0))).v ∧ Below w.heap.size w w' := by
  obtain ⟨k, n, s⟩ := x
  cases hk : k == 0 with
  | true =>
    go_enter Tryz.func38, Tryz.ntmps38
    go_wp2
    refine bodyPost_ret (v := (tru 1).v) (by simp [results, Tryz.results38, go_sem]) rfl ⟨rfl, ?_⟩
    (repeat (first | exact ext_refl _ | assumption | (refine ext_alloc ?_ _) | (refine ext_drewN ?_ _) | refine ext_drew ?_ | (refine ext_set (by first | (simp; done) | (simp; omega)) _ ?_) | (refine ext_trans ?_ (by assumption))))
  | false =>
    go_enter Tryz.func38, Tryz.ntmps38
    go_wp2
    refine bodyPost_ret (v := (tru 0).v) (by simp [results, Tryz.results38, go_sem]) rfl ⟨rfl, ?_⟩
    (repeat (first | exact ext_refl _ | assumption | (refine ext_alloc ?_ _) | (refine ext_drewN ?_ _) | refine ext_drew ?_ | (refine ext_set (by first | (simp; done) | (simp; omega)) _ ?_) | (refine ext_trans ?_ (by assumption))))
set_option maxHeartbeats 8000000 in
theorem apply_any (op : Int) (x y : Val) (w : World) (hx : inR x.n = true) (hy : inR y.n = true) :
    Calls Tryz.prog 16 #[.int .i64 op, x.v, y.v] w fun e w' => e = .returned (.tuple #[(applyS op x y).1.v, .int .i64 (applyS op x y).2]) ∧ Below w.heap.size w w' := by
  have A0 := BV.new w x
  obtain ⟨W1, hW1⟩ : ∃ W, W = w.alloc (.cells #[.int .i64 x.k, .int .i64 x.n, .string x.s] 23) := ⟨_, rfl⟩
  rw [← hW1] at A0
  have z1 : W1.heap.size = w.heap.size + 1 := by rw [hW1]; simp
  have B0 := BV.new W1 y
  obtain ⟨W2, hW2⟩ : ∃ W, W = W1.alloc (.cells #[.int .i64 y.k, .int .i64 y.n, .string y.s] 23) := ⟨_, rfl⟩
  rw [← hW2, z1] at B0
  have z2 : W2.heap.size = w.heap.size + 1 + 1 := by rw [hW2]; simp [z1]
  have T0 := TV.new W2
  obtain ⟨W, hW⟩ : ∃ W, W = W2.alloc (.cells #[.int .i64 0, .int .i64 0, .string ⟨#[]⟩] 23) := ⟨_, rfl⟩
  rw [← hW, z2] at T0
  have b2 : Below W2.heap.size W2 W := by rw [hW]; (repeat (first | exact ext_refl _ | assumption | (refine ext_alloc ?_ _) | (refine ext_drewN ?_ _) | refine ext_drew ?_ | (refine ext_set (by first | (simp; done) | (simp; omega)) _ ?_) | (refine ext_trans ?_ (by assumption))))
  have b1 : Below W1.heap.size W1 W2 := by rw [hW2]; (repeat (first | exact ext_refl _ | assumption | (refine ext_alloc ?_ _) | (refine ext_drewN ?_ _) | refine ext_drew ?_ | (refine ext_set (by first | (simp; done) | (simp; omega)) _ ?_) | (refine ext_trans ?_ (by assumption))))
  have b : Below w.heap.size w W := by rw [hW, hW2, hW1]; (repeat (first | exact ext_refl _ | assumption | (refine ext_alloc ?_ _) | (refine ext_drewN ?_ _) | refine ext_drew ?_ | (refine ext_set (by first | (simp; done) | (simp; omega)) _ ?_) | (refine ext_trans ?_ (by assumption))))
  have A := (A0.on b1).on b2
  have B := B0.on b2
  have HWW := Lib.hid (show W = ((w.alloc (.cells #[.int .i64 x.k, .int .i64 x.n, .string x.s] 23)).alloc (.cells #[.int .i64 y.k, .int .i64 y.n, .string y.s] 23)).alloc (.cells #[.int .i64 0, .int .i64 0, .string ⟨#[]⟩] 23) by rw [hW, hW2, hW1])
  have HB := Lib.hid b
  have HT := Lib.hid T0
  have HX := Lib.hid hx
  have HY := Lib.hid hy
  obtain ⟨g, hg⟩ : ∃ g, g = w.heap.size := ⟨_, rfl⟩
  rw [← hg] at A B
  obtain ⟨h, hh⟩ : ∃ h, h = w.heap.size + 1 + 1 := ⟨_, rfl⟩
  rw [← hh] at HT
  have HH := Lib.hid (show w.heap.size ≤ h by omega)
  have HG := Lib.hid hg
  have HHH := Lib.hid (show h = g + 1 + 1 by omega)
  clear hW hW1 hW2 A0 B0 T0 z1 z2 b b1 b2 hx hy hg hh
  obtain ⟨lA, a0, a1, a2⟩ := A
  obtain ⟨lB, b0, b1, b2⟩ := B
  by_cases e4 : op = 4
  · subst e4
    go_enter Tryz.func16, Tryz.ntmps16
    go_upto_region 1 with fail
    rw [← HWW.out, ← HG.out, ← HHH.out]
    clear HWW
    go_wp2_with fail
    refine (add_any x y W HX.out HY.out).mono ?_
    rintro e X ⟨he, hbX⟩
    have HBX := Lib.hid (HB.out.trans (hbX.mono HB.out.size))
    have T := HT.out.on hbX
    obtain ⟨r, hr⟩ : ∃ r : Val × Int, r = arith 4 x y := ⟨_, rfl⟩
    have HQ := Lib.hid (show applyS 4 x y = r by unfold applyS; rw [if_pos rfl]; exact hr.symm)
    rw [← hr] at he
    clear hr hbX a0 a1 a2 b0 b1 b2 lA lB
    obtain ⟨⟨rk, rn, rs⟩, er⟩ := r
    have TT := Lib.hid (T.all rk rn rs)
    obtain ⟨tl, t0, t1, t2, tf⟩ := T
    have HE := Lib.hid (ext_val HBX.out HH.out rk rn rs)
    subst he
    go_wp2_with fail
    obtain ⟨Z, hZ⟩ : ∃ Z, Z = ((X.setCell ⟨h, 0, none⟩ (.int .i64 rk)).setCell ⟨h, 1, none⟩ (.int .i64 rn)).setCell ⟨h, 2, none⟩ (.string rs) := ⟨_, rfl⟩
    rw [← hZ] at TT HE
    rw [← hZ]
    obtain ⟨-, y0, y1, y2, -⟩ := TT.out
    refine bodyPost_ret (v := .tuple #[.agg #[.int .i64 rk, .int .i64 rn, .string rs], .int .i64 er]) (by simp [results, Tryz.results16, go_sem, y0, y1, y2]) rfl ⟨by rw [HQ.out], HE.out⟩
  by_cases e5 : op = 5
  · subst e5
    go_enter Tryz.func16, Tryz.ntmps16
    go_upto_region 1 with fail
    rw [← HWW.out, ← HG.out, ← HHH.out]
    clear HWW
    go_wp2_with fail
    refine (sub_any x y W HX.out HY.out).mono ?_
    rintro e X ⟨he, hbX⟩
    have HBX := Lib.hid (HB.out.trans (hbX.mono HB.out.size))
    have T := HT.out.on hbX
    obtain ⟨r, hr⟩ : ∃ r : Val × Int, r = arith 5 x y := ⟨_, rfl⟩
    have HQ := Lib.hid (show applyS 5 x y = r by unfold applyS; rw [if_neg (by decide), if_pos rfl]; exact hr.symm)
    rw [← hr] at he
    clear hr hbX a0 a1 a2 b0 b1 b2 lA lB
    obtain ⟨⟨rk, rn, rs⟩, er⟩ := r
    have TT := Lib.hid (T.all rk rn rs)
    obtain ⟨tl, t0, t1, t2, tf⟩ := T
    have HE := Lib.hid (ext_val HBX.out HH.out rk rn rs)
    subst he
    go_wp2_with fail
    obtain ⟨Z, hZ⟩ : ∃ Z, Z = ((X.setCell ⟨h, 0, none⟩ (.int .i64 rk)).setCell ⟨h, 1, none⟩ (.int .i64 rn)).setCell ⟨h, 2, none⟩ (.string rs) := ⟨_, rfl⟩
    rw [← hZ] at TT HE
    rw [← hZ]
    obtain ⟨-, y0, y1, y2, -⟩ := TT.out
    refine bodyPost_ret (v := .tuple #[.agg #[.int .i64 rk, .int .i64 rn, .string rs], .int .i64 er]) (by simp [results, Tryz.results16, go_sem, y0, y1, y2]) rfl ⟨by rw [HQ.out], HE.out⟩
  by_cases e6 : op = 6
  · subst e6
    go_enter Tryz.func16, Tryz.ntmps16
    go_upto_region 1 with fail
    rw [← HWW.out, ← HG.out, ← HHH.out]
    clear HWW
    go_wp2_with fail
    refine (mul_any x y W HX.out HY.out).mono ?_
    rintro e X ⟨he, hbX⟩
    have HBX := Lib.hid (HB.out.trans (hbX.mono HB.out.size))
    have T := HT.out.on hbX
    obtain ⟨r, hr⟩ : ∃ r : Val × Int, r = arith 6 x y := ⟨_, rfl⟩
    have HQ := Lib.hid (show applyS 6 x y = r by unfold applyS; rw [if_neg (by decide), if_neg (by decide), if_pos rfl]; exact hr.symm)
    rw [← hr] at he
    clear hr hbX a0 a1 a2 b0 b1 b2 lA lB
    obtain ⟨⟨rk, rn, rs⟩, er⟩ := r
    have TT := Lib.hid (T.all rk rn rs)
    obtain ⟨tl, t0, t1, t2, tf⟩ := T
    have HE := Lib.hid (ext_val HBX.out HH.out rk rn rs)
    subst he
    go_wp2_with fail
    obtain ⟨Z, hZ⟩ : ∃ Z, Z = ((X.setCell ⟨h, 0, none⟩ (.int .i64 rk)).setCell ⟨h, 1, none⟩ (.int .i64 rn)).setCell ⟨h, 2, none⟩ (.string rs) := ⟨_, rfl⟩
    rw [← hZ] at TT HE
    rw [← hZ]
    obtain ⟨-, y0, y1, y2, -⟩ := TT.out
    refine bodyPost_ret (v := .tuple #[.agg #[.int .i64 rk, .int .i64 rn, .string rs], .int .i64 er]) (by simp [results, Tryz.results16, go_sem, y0, y1, y2]) rfl ⟨by rw [HQ.out], HE.out⟩
  by_cases e7 : op = 7
  · subst e7
    go_enter Tryz.func16, Tryz.ntmps16
    go_upto_region 1 with fail
    rw [← HWW.out, ← HG.out, ← HHH.out]
    clear HWW
    go_wp2_with fail
    refine (div_any x y W HX.out HY.out).mono ?_
    rintro e X ⟨he, hbX⟩
    have HBX := Lib.hid (HB.out.trans (hbX.mono HB.out.size))
    have T := HT.out.on hbX
    obtain ⟨r, hr⟩ : ∃ r : Val × Int, r = arith 7 x y := ⟨_, rfl⟩
    have HQ := Lib.hid (show applyS 7 x y = r by unfold applyS; rw [if_neg (by decide), if_neg (by decide), if_neg (by decide), if_pos rfl]; exact hr.symm)
    rw [← hr] at he
    clear hr hbX a0 a1 a2 b0 b1 b2 lA lB
    obtain ⟨⟨rk, rn, rs⟩, er⟩ := r
    have TT := Lib.hid (T.all rk rn rs)
    obtain ⟨tl, t0, t1, t2, tf⟩ := T
    have HE := Lib.hid (ext_val HBX.out HH.out rk rn rs)
    subst he
    go_wp2_with fail
    obtain ⟨Z, hZ⟩ : ∃ Z, Z = ((X.setCell ⟨h, 0, none⟩ (.int .i64 rk)).setCell ⟨h, 1, none⟩ (.int .i64 rn)).setCell ⟨h, 2, none⟩ (.string rs) := ⟨_, rfl⟩
    rw [← hZ] at TT HE
    rw [← hZ]
    obtain ⟨-, y0, y1, y2, -⟩ := TT.out
    refine bodyPost_ret (v := .tuple #[.agg #[.int .i64 rk, .int .i64 rn, .string rs], .int .i64 er]) (by simp [results, Tryz.results16, go_sem, y0, y1, y2]) rfl ⟨by rw [HQ.out], HE.out⟩
  by_cases e8 : op = 8
  · subst e8
    go_enter Tryz.func16, Tryz.ntmps16
    go_upto_region 1 with fail
    rw [← HWW.out, ← HG.out, ← HHH.out]
    clear HWW
    go_wp2_with fail
    refine (neg_any x W HX.out).mono ?_
    rintro e X ⟨he, hbX⟩
    have HBX := Lib.hid (HB.out.trans (hbX.mono HB.out.size))
    have T := HT.out.on hbX
    obtain ⟨r, hr⟩ : ∃ r : Val × Int, r = arith 5 (num 0) x := ⟨_, rfl⟩
    have HQ := Lib.hid (show applyS 8 x y = r by unfold applyS; rw [if_neg (by decide), if_neg (by decide), if_neg (by decide), if_neg (by decide), if_pos rfl]; exact hr.symm)
    rw [← hr] at he
    clear hr hbX a0 a1 a2 b0 b1 b2 lA lB
    obtain ⟨⟨rk, rn, rs⟩, er⟩ := r
    have TT := Lib.hid (T.all rk rn rs)
    obtain ⟨tl, t0, t1, t2, tf⟩ := T
    have HE := Lib.hid (ext_val HBX.out HH.out rk rn rs)
    subst he
    go_wp2_with fail
    obtain ⟨Z, hZ⟩ : ∃ Z, Z = ((X.setCell ⟨h, 0, none⟩ (.int .i64 rk)).setCell ⟨h, 1, none⟩ (.int .i64 rn)).setCell ⟨h, 2, none⟩ (.string rs) := ⟨_, rfl⟩
    rw [← hZ] at TT HE
    rw [← hZ]
    obtain ⟨-, y0, y1, y2, -⟩ := TT.out
    refine bodyPost_ret (v := .tuple #[.agg #[.int .i64 rk, .int .i64 rn, .string rs], .int .i64 er]) (by simp [results, Tryz.results16, go_sem, y0, y1, y2]) rfl ⟨by rw [HQ.out], HE.out⟩
  by_cases e15 : op = 15
  · subst e15
    go_enter Tryz.func16, Tryz.ntmps16
    go_upto_region 1 with fail
    rw [← HWW.out, ← HG.out, ← HHH.out]
    clear HWW
    go_wp2_with fail
    refine (and_any x y W).mono ?_
    rintro e X ⟨he, hbX⟩
    have HBX := Lib.hid (HB.out.trans (hbX.mono HB.out.size))
    have T := HT.out.on hbX
    obtain ⟨r, hr⟩ : ∃ r : Val × Int, r = conn 0 1 x y := ⟨_, rfl⟩
    have HQ := Lib.hid (show applyS 15 x y = r by unfold applyS; rw [if_neg (by decide), if_neg (by decide), if_neg (by decide), if_neg (by decide), if_neg (by decide), if_pos rfl]; exact hr.symm)
    rw [← hr] at he
    clear hr hbX a0 a1 a2 b0 b1 b2 lA lB
    obtain ⟨⟨rk, rn, rs⟩, er⟩ := r
    have TT := Lib.hid (T.all rk rn rs)
    obtain ⟨tl, t0, t1, t2, tf⟩ := T
    have HE := Lib.hid (ext_val HBX.out HH.out rk rn rs)
    subst he
    go_wp2_with fail
    obtain ⟨Z, hZ⟩ : ∃ Z, Z = ((X.setCell ⟨h, 0, none⟩ (.int .i64 rk)).setCell ⟨h, 1, none⟩ (.int .i64 rn)).setCell ⟨h, 2, none⟩ (.string rs) := ⟨_, rfl⟩
    rw [← hZ] at TT HE
    rw [← hZ]
    obtain ⟨-, y0, y1, y2, -⟩ := TT.out
    refine bodyPost_ret (v := .tuple #[.agg #[.int .i64 rk, .int .i64 rn, .string rs], .int .i64 er]) (by simp [results, Tryz.results16, go_sem, y0, y1, y2]) rfl ⟨by rw [HQ.out], HE.out⟩
  by_cases e16 : op = 16
  · subst e16
    go_enter Tryz.func16, Tryz.ntmps16
    go_upto_region 1 with fail
    rw [← HWW.out, ← HG.out, ← HHH.out]
    clear HWW
    go_wp2_with fail
    refine (or_any x y W).mono ?_
    rintro e X ⟨he, hbX⟩
    have HBX := Lib.hid (HB.out.trans (hbX.mono HB.out.size))
    have T := HT.out.on hbX
    obtain ⟨r, hr⟩ : ∃ r : Val × Int, r = conn 1 0 x y := ⟨_, rfl⟩
    have HQ := Lib.hid (show applyS 16 x y = r by unfold applyS; rw [if_neg (by decide), if_neg (by decide), if_neg (by decide), if_neg (by decide), if_neg (by decide), if_neg (by decide), if_pos rfl]; exact hr.symm)
    rw [← hr] at he
    clear hr hbX a0 a1 a2 b0 b1 b2 lA lB
    obtain ⟨⟨rk, rn, rs⟩, er⟩ := r
    have TT := Lib.hid (T.all rk rn rs)
    obtain ⟨tl, t0, t1, t2, tf⟩ := T
    have HE := Lib.hid (ext_val HBX.out HH.out rk rn rs)
    subst he
    go_wp2_with fail
    obtain ⟨Z, hZ⟩ : ∃ Z, Z = ((X.setCell ⟨h, 0, none⟩ (.int .i64 rk)).setCell ⟨h, 1, none⟩ (.int .i64 rn)).setCell ⟨h, 2, none⟩ (.string rs) := ⟨_, rfl⟩
    rw [← hZ] at TT HE
    rw [← hZ]
    obtain ⟨-, y0, y1, y2, -⟩ := TT.out
    refine bodyPost_ret (v := .tuple #[.agg #[.int .i64 rk, .int .i64 rn, .string rs], .int .i64 er]) (by simp [results, Tryz.results16, go_sem, y0, y1, y2]) rfl ⟨by rw [HQ.out], HE.out⟩
  by_cases e17 : op = 17
  · subst e17
    go_enter Tryz.func16, Tryz.ntmps16
    go_upto_region 1 with fail
    rw [← HWW.out, ← HG.out, ← HHH.out]
    clear HWW
    go_wp2_with fail
    refine (not_any x W).mono ?_
    rintro e X ⟨he, hbX⟩
    have HBX := Lib.hid (HB.out.trans (hbX.mono HB.out.size))
    have T := HT.out.on hbX
    obtain ⟨r, hr⟩ : ∃ r : Val × Int, r = notS x := ⟨_, rfl⟩
    have HQ := Lib.hid (show applyS 17 x y = r by unfold applyS; rw [if_neg (by decide), if_neg (by decide), if_neg (by decide), if_neg (by decide), if_neg (by decide), if_neg (by decide), if_neg (by decide), if_pos rfl]; exact hr.symm)
    rw [← hr] at he
    clear hr hbX a0 a1 a2 b0 b1 b2 lA lB
    obtain ⟨⟨rk, rn, rs⟩, er⟩ := r
    have TT := Lib.hid (T.all rk rn rs)
    obtain ⟨tl, t0, t1, t2, tf⟩ := T
    have HE := Lib.hid (ext_val HBX.out HH.out rk rn rs)
    subst he
    go_wp2_with fail
    obtain ⟨Z, hZ⟩ : ∃ Z, Z = ((X.setCell ⟨h, 0, none⟩ (.int .i64 rk)).setCell ⟨h, 1, none⟩ (.int .i64 rn)).setCell ⟨h, 2, none⟩ (.string rs) := ⟨_, rfl⟩
    rw [← hZ] at TT HE
    rw [← hZ]
    obtain ⟨-, y0, y1, y2, -⟩ := TT.out
    refine bodyPost_ret (v := .tuple #[.agg #[.int .i64 rk, .int .i64 rn, .string rs], .int .i64 er]) (by simp [results, Tryz.results16, go_sem, y0, y1, y2]) rfl ⟨by rw [HQ.out], HE.out⟩
  by_cases e18 : op = 18
  · subst e18
    go_enter Tryz.func16, Tryz.ntmps16
    go_upto_region 1 with fail
    rw [← HWW.out, ← HG.out, ← HHH.out]
    clear HWW
    go_wp2_with fail
    refine (nullness_any x W).mono ?_
    rintro e X ⟨he, hbX⟩
    have HBX := Lib.hid (HB.out.trans (hbX.mono HB.out.size))
    have T := HT.out.on hbX
    obtain ⟨r, hr⟩ : ∃ r : Val × Int, r = (tru (bit (x.k == 0)), (0 : Int)) := ⟨_, rfl⟩
    have HQ := Lib.hid (show applyS 18 x y = r by unfold applyS; rw [if_neg (by decide), if_neg (by decide), if_neg (by decide), if_neg (by decide), if_neg (by decide), if_neg (by decide), if_neg (by decide), if_neg (by decide), if_pos rfl]; exact hr.symm)
    replace he : e = .returned (.agg #[.int .i64 r.1.k, .int .i64 r.1.n, .string r.1.s]) := by rw [he, hr]
    have he0 : r.2 = 0 := by rw [hr]
    clear hr hbX a0 a1 a2 b0 b1 b2 lA lB
    obtain ⟨⟨rk, rn, rs⟩, er⟩ := r
    have TT := Lib.hid (T.all rk rn rs)
    obtain ⟨tl, t0, t1, t2, tf⟩ := T
    have HE := Lib.hid (ext_val HBX.out HH.out rk rn rs)
    dsimp only at he he0
    subst he0
    subst he
    go_wp2_with fail
    obtain ⟨Z, hZ⟩ : ∃ Z, Z = ((X.setCell ⟨h, 0, none⟩ (.int .i64 rk)).setCell ⟨h, 1, none⟩ (.int .i64 rn)).setCell ⟨h, 2, none⟩ (.string rs) := ⟨_, rfl⟩
    rw [← hZ] at TT HE
    rw [← hZ]
    obtain ⟨-, y0, y1, y2, -⟩ := TT.out
    refine bodyPost_ret (v := .tuple #[.agg #[.int .i64 rk, .int .i64 rn, .string rs], .int .i64 0]) (by simp [results, Tryz.results16, go_sem, y0, y1, y2]) rfl ⟨by rw [HQ.out], HE.out⟩
  have q4 : (op == 4) = false := by rw [beq_eq_false_iff_ne]; exact e4
  have q5 : (op == 5) = false := by rw [beq_eq_false_iff_ne]; exact e5
  have q6 : (op == 6) = false := by rw [beq_eq_false_iff_ne]; exact e6
  have q7 : (op == 7) = false := by rw [beq_eq_false_iff_ne]; exact e7
  have q8 : (op == 8) = false := by rw [beq_eq_false_iff_ne]; exact e8
  have q15 : (op == 15) = false := by rw [beq_eq_false_iff_ne]; exact e15
  have q16 : (op == 16) = false := by rw [beq_eq_false_iff_ne]; exact e16
  have q17 : (op == 17) = false := by rw [beq_eq_false_iff_ne]; exact e17
  have q18 : (op == 18) = false := by rw [beq_eq_false_iff_ne]; exact e18
  have HQ0 := Lib.hid (show applyS op x y = testS op x y by unfold applyS; rw [if_neg e4, if_neg e5, if_neg e6, if_neg e7, if_neg e8, if_neg e15, if_neg e16, if_neg e17, if_neg e18])
  clear e4 e5 e6 e7 e8 e15 e16 e17 e18
  go_enter Tryz.func16, Tryz.ntmps16
  go_upto_region 1 with fail
  rw [← HWW.out, ← HG.out, ← HHH.out]
  clear HWW
  go_wp2_with fail
  refine (test_any op x y W).mono ?_
  rintro e X ⟨he, hbX⟩
  have HBX := Lib.hid (HB.out.trans (hbX.mono HB.out.size))
  have T := HT.out.on hbX
  obtain ⟨r, hr⟩ : ∃ r : Val × Int, r = testS op x y := ⟨_, rfl⟩
  have HQ := Lib.hid (show applyS op x y = r by rw [HQ0.out]; exact hr.symm)
  rw [← hr] at he
  clear hr hbX a0 a1 a2 b0 b1 b2 lA lB
  obtain ⟨⟨rk, rn, rs⟩, er⟩ := r
  have TT := Lib.hid (T.all rk rn rs)
  obtain ⟨tl, t0, t1, t2, tf⟩ := T
  have HE := Lib.hid (ext_val HBX.out HH.out rk rn rs)
  subst he
  go_wp2_with fail
  obtain ⟨Z, hZ⟩ : ∃ Z, Z = ((X.setCell ⟨h, 0, none⟩ (.int .i64 rk)).setCell ⟨h, 1, none⟩ (.int .i64 rn)).setCell ⟨h, 2, none⟩ (.string rs) := ⟨_, rfl⟩
  rw [← hZ] at TT HE
  rw [← hZ]
  obtain ⟨-, y0, y1, y2, -⟩ := TT.out
  refine bodyPost_ret (v := .tuple #[.agg #[.int .i64 rk, .int .i64 rn, .string rs], .int .i64 er]) (by simp [results, Tryz.results16, go_sem, y0, y1, y2]) rfl ⟨by rw [HQ.out], HE.out⟩
inductive EvL where
  | ok (l : List Val)
  | bad (e : Int)
mutual
def evalE (cols : List (List Val)) (ps : List Val) : Ex → Val × Int
  | .mk op v rel col n _ l => if op = 1 then (v, 0) else if op = 2 ∨ op = 3 then ((leafV op rel col n cols ps).getD zeroVal, 0) else match evalL cols ps l with
    | .ok vs => applyS op (vs.getD 0 zeroVal) (vs.getD 1 zeroVal)
    | .bad e => (zeroVal, e)
def evalL (cols : List (List Val)) (ps : List Val) : List Ex → EvL
  | [] => .ok []
  | x :: r => if (evalE cols ps x).2 = 0 then (match evalL cols ps r with
    | .ok vs => .ok ((evalE cols ps x).1 :: vs)
    | .bad e => .bad e) else .bad (evalE cols ps x).2
end
theorem eval_one {cols : List (List Val)} {ps : List Val} {op : Int} {v : Val} {rel col n : Int} {s : ByteArray} {l : List Ex} (h : op = 1) : evalE cols ps (.mk op v rel col n s l) = (v, 0) := by rw [evalE, if_pos h]
theorem eval_leaf {cols : List (List Val)} {ps : List Val} {op : Int} {v : Val} {rel col n : Int} {s : ByteArray} {l : List Ex} (h : op = 2 ∨ op = 3) : evalE cols ps (.mk op v rel col n s l) = ((leafV op rel col n cols ps).getD zeroVal, 0) := by rw [evalE, if_neg (by omega), if_pos h]
theorem eval_op {cols : List (List Val)} {ps : List Val} {op : Int} {v : Val} {rel col n : Int} {s : ByteArray} {l : List Ex} (h : 4 ≤ op) : evalE cols ps (.mk op v rel col n s l) = match evalL cols ps l with
    | .ok vs => applyS op (vs.getD 0 zeroVal) (vs.getD 1 zeroVal)
    | .bad e => (zeroVal, e) := by
  rw [evalE, if_neg (by omega), if_neg (by omega)]
theorem evalL_bad {cols : List (List Val)} {ps : List Val} {x : Ex} {r : List Ex} (h : (evalE cols ps x).2 ≠ 0) : evalL cols ps (x :: r) = .bad (evalE cols ps x).2 := by rw [evalL, if_neg h]
theorem evalL_ok {cols : List (List Val)} {ps : List Val} {x : Ex} {r : List Ex} (h : (evalE cols ps x).2 = 0) : evalL cols ps (x :: r) = match evalL cols ps r with
    | .ok vs => .ok ((evalE cols ps x).1 :: vs)
    | .bad e => .bad e := by rw [evalL, if_pos h]
theorem evalL_nil {cols : List (List Val)} {ps : List Val} : evalL cols ps [] = .ok [] := by rw [evalL]
def RV (cols : List (List Val)) (ps : List Val) : Prop := (∀ l ∈ cols, ∀ v ∈ l, inR v.n = true) ∧ ∀ v ∈ ps, inR v.n = true
theorem arith_in (op : Int) (x y : Val) : inR (arith op x y).1.n = true := by
  unfold arith
  split
  · split
    · rfl
    · split
      · rfl
      · split
        · assumption
        · rfl
  · rfl
theorem bit_in (b : Bool) : inR (bit b) = true := by cases b <;> rfl
theorem conn_in (d o : Int) (x y : Val) (hd : inR d = true) (ho : inR o = true) : inR (conn d o x y).1.n = true := by
  unfold conn
  split
  · split
    · exact hd
    · split
      · rfl
      · exact ho
  · rfl
theorem nullOr_parts {kd : Int} {x : Val} (h : x.nullOr kd = true) : x.right = true ∧ (x.k = 0 ∨ x.k = kd) := by
  simpa [Val.nullOr] using h
theorem not_in (x : Val) : inR (notS x).1.n = true := by
  unfold notS
  split
  · rename_i h
    split
    · rfl
    · rename_i h0
      obtain ⟨hr, h2⟩ := nullOr_parts h
      have hk : x.k = 2 := h2.resolve_left (by simpa using h0)
      unfold Val.right at hr
      rw [hk] at hr
      simp at hr
      rcases hr.1 with e | e
      · show inR (1 - x.n) = true
        rw [e]; rfl
      · show inR (1 - x.n) = true
        rw [e]; rfl
  · rfl
theorem test_in (op : Int) (x y : Val) : inR (testS op x y).1.n = true := by
  unfold testS
  split
  · split
    · rfl
    · exact bit_in _
  · rfl
theorem apply_in (op : Int) (x y : Val) : inR (applyS op x y).1.n = true := by
  unfold applyS
  repeat' split
  all_goals first
    | exact arith_in _ _ _
    | exact conn_in _ _ _ _ rfl rfl
    | exact not_in _
    | exact test_in _ _ _
    | exact bit_in _
theorem leafV_in {op rel col n : Int} {cols : List (List Val)} {ps : List Val} (h : RV cols ps) : inR ((leafV op rel col n cols ps).getD zeroVal).n = true := by
  unfold leafV
  split
  · cases h1 : cols[rel.toNat]? with
    | none => rfl
    | some l =>
      simp only [Option.bind_some]
      cases h2 : l[col.toNat]? with
      | none => rfl
      | some v => exact h.1 l (List.mem_of_getElem? h1) v (List.mem_of_getElem? h2)
  · split
    · cases h2 : ps[(n - 1).toNat]? with
      | none => rfl
      | some v => exact h.2 v (List.mem_of_getElem? h2)
    · rfl
theorem eval_in {cols : List (List Val)} {ps : List Val} (h : RV cols ps) {op : Int} {v : Val} {rel col n : Int} {s : ByteArray} {l : List Ex} (hv : inR v.n = true) : inR (evalE cols ps (.mk op v rel col n s l)).1.n = true := by
  rw [evalE]
  split
  · exact hv
  · split
    · exact leafV_in h
    · split
      · exact apply_in _ _ _
      · rfl
mutual
def thereE (cols : List (List Val)) (ps : List Val) : Ex → Bool
  | .mk op _ rel col n _ l => (leafV op rel col n cols ps).isSome && thereL cols ps l
def thereL (cols : List (List Val)) (ps : List Val) : List Ex → Bool
  | [] => true
  | x :: r => thereE cols ps x && thereL cols ps r
end
theorem there_other {op : Int} {v : Val} {rel col n : Int} {s : ByteArray} {l : List Ex} {cols : List (List Val)} {ps : List Val} (h2 : op ≠ 2) (h3 : op ≠ 3) : thereE cols ps (.mk op v rel col n s l) = thereL cols ps l := by
  rw [thereE, leafV, if_neg h2, if_neg h3]
  rfl
mutual
theorem there_nodes (cols : List (List Val)) (ps : List Val) : ∀ x : Ex, thereE cols ps x = x.nodes.all (okV cols ps)
  | .mk op v rel col n s l => by
    rw [thereE, Ex.nodes, List.all_cons, there_nodesL cols ps l]
    congr 1
    unfold okV
    by_cases h : op = 2 ∨ op = 3
    · rw [if_pos h]
    · rw [if_neg h]
      unfold leafV
      rw [if_neg (fun e => h (.inl e)), if_neg (fun e => h (.inr e))]
      rfl
theorem there_nodesL (cols : List (List Val)) (ps : List Val) : ∀ l : List Ex, thereL cols ps l = (nodesL l).all (okV cols ps)
  | [] => by rw [nodesL, thereL]; rfl
  | x :: r => by rw [nodesL, thereL, List.all_append, there_nodes cols ps x, there_nodesL cols ps r]
end
def evalR (cols : List (List Val)) (ps : List Val) (x : Ex) : Val × Int := if (rightE x && thereE cols ps x) = true then evalE cols ps x else (zeroVal, 1)
open Go.RowKit
set_option maxRecDepth 100000
structure AV (W : World) (h : Nat) (x y : Val) : Prop where
  lt : h < W.heap.size
  a0 : W.cell? ⟨h, 0, none⟩ = some (.int .i64 x.k)
  a1 : W.cell? ⟨h, 1, none⟩ = some (.int .i64 x.n)
  a2 : W.cell? ⟨h, 2, none⟩ = some (.string x.s)
  a3 : W.cell? ⟨h, 3, none⟩ = some (.int .i64 y.k)
  a4 : W.cell? ⟨h, 4, none⟩ = some (.int .i64 y.n)
  a5 : W.cell? ⟨h, 5, none⟩ = some (.string y.s)
  fz : ∀ o, W.frozen? ⟨h, o, none⟩ = false
theorem AV.on {W W' : World} {h : Nat} {x y : Val} (r : AV W h x y) (hb : Below W.heap.size W W') : AV W' h x y :=
  ⟨Nat.lt_of_lt_of_le r.lt hb.size, (hb.cell (p := ⟨_, _, none⟩) r.lt).trans r.a0, (hb.cell (p := ⟨_, _, none⟩) r.lt).trans r.a1, (hb.cell (p := ⟨_, _, none⟩) r.lt).trans r.a2, (hb.cell (p := ⟨_, _, none⟩) r.lt).trans r.a3, (hb.cell (p := ⟨_, _, none⟩) r.lt).trans r.a4, (hb.cell (p := ⟨_, _, none⟩) r.lt).trans r.a5, fun o => (hb.frozen (p := ⟨_, o, none⟩) r.lt).trans (r.fz o)⟩
theorem AV.set0 {W : World} {h : Nat} {x y : Val} (r : AV W h x y) (u : Val) : AV (((W.setCell ⟨h, 0, none⟩ (.int .i64 u.k)).setCell ⟨h, 1, none⟩ (.int .i64 u.n)).setCell ⟨h, 2, none⟩ (.string u.s)) h u y := by
  obtain ⟨lt, a0, a1, a2, a3, a4, a5, fz⟩ := r
  exact ⟨by simp only [World.size_setCell]; exact lt, by simp [go_sem, a0], by simp [go_sem, a1], by simp [go_sem, a2], by simp [go_sem, a3], by simp [go_sem, a4], by simp [go_sem, a5], fun o => by simp only [World.frozen?_setCell]; exact fz o⟩
theorem AV.set1 {W : World} {h : Nat} {x y : Val} (r : AV W h x y) (u : Val) : AV (((W.setCell ⟨h, 3, none⟩ (.int .i64 u.k)).setCell ⟨h, 4, none⟩ (.int .i64 u.n)).setCell ⟨h, 5, none⟩ (.string u.s)) h x u := by
  obtain ⟨lt, a0, a1, a2, a3, a4, a5, fz⟩ := r
  exact ⟨by simp only [World.size_setCell]; exact lt, by simp [go_sem, a0], by simp [go_sem, a1], by simp [go_sem, a2], by simp [go_sem, a3], by simp [go_sem, a4], by simp [go_sem, a5], fun o => by simp only [World.frozen?_setCell]; exact fz o⟩
structure KE (w : World) (C P R : Nat) (cv pv : Value) : Prop where
  cC : w.cell? ⟨C, 0, none⟩ = some cv
  cP : w.cell? ⟨P, 0, none⟩ = some pv
  cR : w.cell? ⟨R, 0, none⟩ = some (.func (.func 14) #[] #[.pointer (some ⟨C, 0, none⟩), .pointer (some ⟨P, 0, none⟩), .pointer (some ⟨R, 0, none⟩)])
  lC : C < w.heap.size
  lP : P < w.heap.size
  lR : R < w.heap.size
theorem KE.on {w w' : World} {C P R : Nat} {cv pv : Value} (h : KE w C P R cv pv) (hb : Below w.heap.size w w') : KE w' C P R cv pv :=
  ⟨(hb.cell (p := ⟨_, _, none⟩) h.lC).trans h.cC, (hb.cell (p := ⟨_, _, none⟩) h.lP).trans h.cP, (hb.cell (p := ⟨_, _, none⟩) h.lR).trans h.cR, Nat.lt_of_lt_of_le h.lC hb.size, Nat.lt_of_lt_of_le h.lP hb.size, Nat.lt_of_lt_of_le h.lR hb.size⟩
theorem KE.set {w : World} {C P R : Nat} {cv pv : Value} (h : KE w C P R cv pv) {p : Addr} (hR : R ≠ p.block) (hC : C ≠ p.block) (hP : P ≠ p.block) (u : Value) : KE (w.setCell p u) C P R cv pv :=
  ⟨(World.cell?_setCell_other _ _ _ _ (fun e => hC (by rw [e]))).trans h.cC, (World.cell?_setCell_other _ _ _ _ (fun e => hP (by rw [e]))).trans h.cP, (World.cell?_setCell_other _ _ _ _ (fun e => hR (by rw [e]))).trans h.cR, by rw [World.size_setCell]; exact h.lC, by rw [World.size_setCell]; exact h.lP, by rw [World.size_setCell]; exact h.lR⟩
theorem TV.set {W : World} {g : Nat} {k n : Int} {s : ByteArray} (h : TV W g k n s) {p : Addr} (hp : g ≠ p.block) (u : Value) : TV (W.setCell p u) g k n s :=
  ⟨by rw [World.size_setCell]; exact h.lt, (World.cell?_setCell_other _ _ _ _ (fun e => hp (by rw [e]))).trans h.c0, (World.cell?_setCell_other _ _ _ _ (fun e => hp (by rw [e]))).trans h.c1, (World.cell?_setCell_other _ _ _ _ (fun e => hp (by rw [e]))).trans h.c2, fun o => by rw [World.frozen?_setCell]; exact h.fz o⟩
structure ES (w W : World) (g r h : Nat) (op : Int) (v : Val) (rel col n : Int) (s : ByteArray) (q : Option Addr) (len c : Nat) (x y : Val) (C P R : Nat) (cv pv : Value) : Prop where
  e : EB W g op v rel col n s q len c
  t : TV W r 0 0 ⟨#[]⟩
  a : AV W h x y
  k : KE W C P R cv pv
  b : Below w.heap.size w W
section
variable {w W W' : World} {g r h : Nat} {op : Int} {v : Val} {rel col n : Int} {s : ByteArray} {q : Option Addr} {len c : Nat} {x y : Val} {C P R : Nat} {cv pv : Value}
theorem ES.on (H : ES w W g r h op v rel col n s q len c x y C P R cv pv) (hb : Below W.heap.size W W') : ES w W' g r h op v rel col n s q len c x y C P R cv pv :=
  ⟨H.e.on hb, H.t.on hb, H.a.on hb, H.k.on hb, H.b.trans (hb.mono H.b.size)⟩
theorem ES.store0 (H : ES w W g r h op v rel col n s q len c x y C P R cv pv) (h1 : h ≠ g) (h2 : r ≠ h) (h3 : R ≠ h) (h4 : C ≠ h) (h5 : P ≠ h) (h6 : w.heap.size ≤ h) (u : Val) : ES w (((W.setCell ⟨h, 0, none⟩ (.int .i64 u.k)).setCell ⟨h, 1, none⟩ (.int .i64 u.n)).setCell ⟨h, 2, none⟩ (.string u.s)) g r h op v rel col n s q len c u y C P R cv pv :=
  ⟨((H.e.set (p := ⟨h, 0, none⟩) h1 _).set (p := ⟨h, 1, none⟩) h1 _).set (p := ⟨h, 2, none⟩) h1 _, ((H.t.set (p := ⟨h, 0, none⟩) h2 _).set (p := ⟨h, 1, none⟩) h2 _).set (p := ⟨h, 2, none⟩) h2 _, H.a.set0 u, ((H.k.set (p := ⟨h, 0, none⟩) h3 h4 h5 _).set (p := ⟨h, 1, none⟩) h3 h4 h5 _).set (p := ⟨h, 2, none⟩) h3 h4 h5 _, ext_val H.b h6 _ _ _⟩
theorem ES.store1 (H : ES w W g r h op v rel col n s q len c x y C P R cv pv) (h1 : h ≠ g) (h2 : r ≠ h) (h3 : R ≠ h) (h4 : C ≠ h) (h5 : P ≠ h) (h6 : w.heap.size ≤ h) (u : Val) : ES w (((W.setCell ⟨h, 3, none⟩ (.int .i64 u.k)).setCell ⟨h, 4, none⟩ (.int .i64 u.n)).setCell ⟨h, 5, none⟩ (.string u.s)) g r h op v rel col n s q len c x u C P R cv pv :=
  ⟨((H.e.set (p := ⟨h, 3, none⟩) h1 _).set (p := ⟨h, 4, none⟩) h1 _).set (p := ⟨h, 5, none⟩) h1 _, ((H.t.set (p := ⟨h, 3, none⟩) h2 _).set (p := ⟨h, 4, none⟩) h2 _).set (p := ⟨h, 5, none⟩) h2 _, H.a.set1 u, ((H.k.set (p := ⟨h, 3, none⟩) h3 h4 h5 _).set (p := ⟨h, 4, none⟩) h3 h4 h5 _).set (p := ⟨h, 5, none⟩) h3 h4 h5 _, ext_set (p := ⟨h, 5, none⟩) h6 _ (ext_set (p := ⟨h, 4, none⟩) h6 _ (ext_set (p := ⟨h, 3, none⟩) h6 _ H.b))⟩
end
def EvalC (x : Ex) : Prop := ∀ (w : World) (cs : List Value) (C P R : Nat) (cv pv : Value) (cols : List (List Val)) (ps : List Val), ExM w x cs → KE w C P R cv pv → VM w cv pv cols ps → RV cols ps →
  Calls Tryz.prog 14 #[.agg cs.toArray, .pointer (some ⟨C, 0, none⟩), .pointer (some ⟨P, 0, none⟩), .pointer (some ⟨R, 0, none⟩)] w fun e w' => e = .returned (.tuple #[(evalE cols ps x).1.v, .int .i64 (evalE cols ps x).2]) ∧ Below w.heap.size w w'
set_option maxHeartbeats 16000000 in
theorem evalC_mk (op : Int) (v : Val) (rel col n : Int) (s : ByteArray) (l : List Ex) (hh : headOk op v rel col n s l.length = true) (IH : ∀ y ∈ l, EvalC y) : EvalC (.mk op v rel col n s l) := by
  intro w cs C P R cv pv cols ps hx hD hM hRV
  rw [ExM.iff] at hx
  obtain ⟨-, q, c, rfl, -, hl⟩ := hx
  obtain ⟨len, hlen⟩ : ∃ len, len = l.length := ⟨_, rfl⟩
  have HLEN := Lib.hid hlen
  rw [← hlen] at hh ⊢
  have HL := Lib.hid hl
  have HI := Lib.hid IH
  have HDw := Lib.hid hD
  have HMw := Lib.hid hM
  have HRV := Lib.hid hRV
  have HH := Lib.hid hh
  clear hl IH hD hM hRV hlen hh
  obtain ⟨⟨cq, cc, rfl, hcc, hcm, -⟩, pq, pc, rfl, hpc, hpm, -⟩ := id HMw.out
  have E0 := EB.new w op v rel col n s q len c 26
  obtain ⟨W1, hW1⟩ : ∃ W, W = w.alloc (.cells (exCells op v rel col n s q len c).toArray 26) := ⟨_, rfl⟩
  rw [← hW1] at E0
  have z1 : W1.heap.size = w.heap.size + 1 := by rw [hW1]; simp
  have T0 := TV.new W1
  obtain ⟨W, hW⟩ : ∃ W, W = W1.alloc (.cells #[.int .i64 0, .int .i64 0, .string ⟨#[]⟩] 23) := ⟨_, rfl⟩
  rw [← hW, z1] at T0
  have b1 : Below W1.heap.size W1 W := by rw [hW]; (repeat (first | exact ext_refl _ | assumption | (refine ext_alloc ?_ _) | (refine ext_drewN ?_ _) | refine ext_drew ?_ | (refine ext_set (by first | (simp; done) | (simp; omega)) _ ?_) | (refine ext_trans ?_ (by assumption))))
  have b : Below w.heap.size w W := by rw [hW, hW1]; (repeat (first | exact ext_refl _ | assumption | (refine ext_alloc ?_ _) | (refine ext_drewN ?_ _) | refine ext_drew ?_ | (refine ext_set (by first | (simp; done) | (simp; omega)) _ ?_) | (refine ext_trans ?_ (by assumption))))
  have E1 := E0.on b1
  have z2 : W.heap.size = w.heap.size + 1 + 1 := by rw [hW]; simp [z1]
  have HWW := Lib.hid (show W = (w.alloc (.cells (exCells op v rel col n s q len c).toArray 26)).alloc (.cells #[.int .i64 0, .int .i64 0, .string ⟨#[]⟩] 23) by rw [hW, hW1])
  clear hW hW1 E0 z1 b1
  go_enter Tryz.func14, Tryz.ntmps14
  go_upto_region 1 with fail
  rw [← HWW.out]
  clear HWW
  obtain ⟨g, hg⟩ : ∃ g, g = w.heap.size := ⟨_, rfl⟩
  have HGW := Lib.hid hg
  rw [← hg] at E1 T0 z2 ⊢
  obtain ⟨r, hr⟩ : ∃ r, r = g + 1 := ⟨_, rfl⟩
  have HGR := Lib.hid hr
  rw [← hr] at T0 z2 ⊢
  have HB := Lib.hid b
  have HE0 := Lib.hid E1
  have HT0 := Lib.hid T0
  have HZ := Lib.hid z2
  clear hg hr b z2
  obtain ⟨lt, c0, c1, c2, c3, c4, c5, c6, c7, c8⟩ := E1
  obtain ⟨ltR, t0, t1, t2, tf⟩ := T0
  have hop := op_range HH.out
  by_cases e1 : op = 1
  · have q1 : (op == 1) = true := by rw [beq_iff_eq]; exact e1
    have HQ := Lib.hid (eval_one (cols := cols) (ps := ps) (v := v) (rel := rel) (col := col) (n := n) (s := s) (l := l) e1)
    clear e1 hop
    obtain ⟨vk, vn, vs⟩ := v
    have TT := Lib.hid (HT0.out.all vk vn vs)
    have HE := Lib.hid (ext_val HB.out (by have := HGR.out; have := HGW.out; omega : w.heap.size ≤ r) vk vn vs)
    go_wp2_with fail
    obtain ⟨Q, hQ⟩ : ∃ X', X' = (((W.setCell ⟨r, 0, none⟩ (.int .i64 vk)).setCell ⟨r, 1, none⟩ (.int .i64 vn)).setCell ⟨r, 2, none⟩ (.string vs)) := ⟨_, rfl⟩
    rw [← hQ] at TT HE
    rw [← hQ]
    obtain ⟨-, y0, y1, y2, -⟩ := TT.out
    refine bodyPost_ret (v := .tuple #[.agg #[.int .i64 vk, .int .i64 vn, .string vs], .int .i64 0]) (by simp [results, Tryz.results14, go_sem, y0, y1, y2]) rfl ⟨by rw [HQ.out], HE.out⟩
  have q1 : (op == 1) = false := by rw [beq_eq_false_iff_ne]; exact e1
  by_cases e23 : op = 2 ∨ op = 3
  · have HQ := Lib.hid (eval_leaf (cols := cols) (ps := ps) (v := v) (rel := rel) (col := col) (n := n) (s := s) (l := l) e23)
    have H23 := Lib.hid e23
    have hDW := HDw.out.on HB.out
    have cC := hDW.cC
    have cP := hDW.cP
    have lC := hDW.lC
    have lP := hDW.lP
    clear hDW
    rcases e23 with e2 | e3
    · have q2 : (op == 2) = true := by rw [beq_iff_eq]; exact e2
      clear e2 e1 hop
      go_wp2_with fail
      refine (source_val op v rel col n s q len c W _ _ cols ps (HMw.out.on HB.out) HH.out H23.out).mono ?_
      rintro e X ⟨he, hbX⟩
      have HBX := Lib.hid (HB.out.trans (hbX.mono HB.out.size))
      have T := HT0.out.on hbX
      obtain ⟨z, hz⟩ : ∃ z, z = (leafV op rel col n cols ps).getD zeroVal := ⟨_, rfl⟩
      obtain ⟨ok, hok⟩ : ∃ ok, ok = (leafV op rel col n cols ps).isSome := ⟨_, rfl⟩
      rw [← hz] at HQ
      rw [← hz, ← hok] at he
      clear hz hok hbX lt c0 c1 c2 c3 c4 c5 c6 c7 c8 cC cP lC lP ltR t0 t1 t2 tf
      obtain ⟨rk, rn, rs⟩ := z
      have bX2 := ext_alloc (ext_refl X) (.cells #[.int .i64 rk, .int .i64 rn, .string rs] 23)
      have HBX2 := Lib.hid (HBX.out.trans (bX2.mono HBX.out.size))
      have T2 := T.on bX2
      clear bX2 T
      obtain ⟨X2, hX2⟩ : ∃ X2, X2 = X.alloc (.cells #[.int .i64 rk, .int .i64 rn, .string rs] 23) := ⟨_, rfl⟩
      have HX2 := Lib.hid hX2
      rw [← hX2] at HBX2 T2
      clear hX2
      have TT := Lib.hid (T2.all rk rn rs)
      have HT2 := Lib.hid T2
      have HE := Lib.hid (ext_val HBX2.out (by have := HGR.out; have := HGW.out; omega : w.heap.size ≤ r) rk rn rs)
      clear T2
      subst he
      go_upto_region 7 with fail
      rw [← HX2.out]
      obtain ⟨tl, t0, t1, t2, tf⟩ := HT2.out
      obtain ⟨lv, v0, v1, v2⟩ := (show BV X2 X.heap.size ⟨rk, rn, rs⟩ by rw [HX2.out]; exact BV.new X ⟨rk, rn, rs⟩)
      go_wp2_with fail
      obtain ⟨Q, hQ⟩ : ∃ X', X' = (((X2.setCell ⟨r, 0, none⟩ (.int .i64 rk)).setCell ⟨r, 1, none⟩ (.int .i64 rn)).setCell ⟨r, 2, none⟩ (.string rs)) := ⟨_, rfl⟩
      rw [← hQ] at TT HE
      rw [← hQ]
      obtain ⟨-, y0, y1, y2, -⟩ := TT.out
      refine bodyPost_ret (v := .tuple #[.agg #[.int .i64 rk, .int .i64 rn, .string rs], .int .i64 0]) (by simp [results, Tryz.results14, go_sem, y0, y1, y2]) rfl ⟨by rw [HQ.out], HE.out⟩
    · have q2 : (op == 2) = false := by rw [beq_eq_false_iff_ne]; omega
      have q3 : (op == 3) = true := by rw [beq_iff_eq]; exact e3
      clear e3 e1 hop
      go_wp2_with fail
      refine (source_val op v rel col n s q len c W _ _ cols ps (HMw.out.on HB.out) HH.out H23.out).mono ?_
      rintro e X ⟨he, hbX⟩
      have HBX := Lib.hid (HB.out.trans (hbX.mono HB.out.size))
      have T := HT0.out.on hbX
      obtain ⟨z, hz⟩ : ∃ z, z = (leafV op rel col n cols ps).getD zeroVal := ⟨_, rfl⟩
      obtain ⟨ok, hok⟩ : ∃ ok, ok = (leafV op rel col n cols ps).isSome := ⟨_, rfl⟩
      rw [← hz] at HQ
      rw [← hz, ← hok] at he
      clear hz hok hbX lt c0 c1 c2 c3 c4 c5 c6 c7 c8 cC cP lC lP ltR t0 t1 t2 tf
      obtain ⟨rk, rn, rs⟩ := z
      have bX2 := ext_alloc (ext_refl X) (.cells #[.int .i64 rk, .int .i64 rn, .string rs] 23)
      have HBX2 := Lib.hid (HBX.out.trans (bX2.mono HBX.out.size))
      have T2 := T.on bX2
      clear bX2 T
      obtain ⟨X2, hX2⟩ : ∃ X2, X2 = X.alloc (.cells #[.int .i64 rk, .int .i64 rn, .string rs] 23) := ⟨_, rfl⟩
      have HX2 := Lib.hid hX2
      rw [← hX2] at HBX2 T2
      clear hX2
      have TT := Lib.hid (T2.all rk rn rs)
      have HT2 := Lib.hid T2
      have HE := Lib.hid (ext_val HBX2.out (by have := HGR.out; have := HGW.out; omega : w.heap.size ≤ r) rk rn rs)
      clear T2
      subst he
      go_upto_region 7 with fail
      rw [← HX2.out]
      obtain ⟨tl, t0, t1, t2, tf⟩ := HT2.out
      obtain ⟨lv, v0, v1, v2⟩ := (show BV X2 X.heap.size ⟨rk, rn, rs⟩ by rw [HX2.out]; exact BV.new X ⟨rk, rn, rs⟩)
      go_wp2_with fail
      obtain ⟨Q, hQ⟩ : ∃ X', X' = (((X2.setCell ⟨r, 0, none⟩ (.int .i64 rk)).setCell ⟨r, 1, none⟩ (.int .i64 rn)).setCell ⟨r, 2, none⟩ (.string rs)) := ⟨_, rfl⟩
      rw [← hQ] at TT HE
      rw [← hQ]
      obtain ⟨-, y0, y1, y2, -⟩ := TT.out
      refine bodyPost_ret (v := .tuple #[.agg #[.int .i64 rk, .int .i64 rn, .string rs], .int .i64 0]) (by simp [results, Tryz.results14, go_sem, y0, y1, y2]) rfl ⟨by rw [HQ.out], HE.out⟩
  have q2 : (op == 2) = false := by rw [beq_eq_false_iff_ne]; exact fun e => e23 (.inl e)
  have q3 : (op == 3) = false := by rw [beq_eq_false_iff_ne]; exact fun e => e23 (.inr e)
  have H4 := Lib.hid (show 4 ≤ op by omega)
  clear e1 e23 hop
  have hA : AV (W.alloc (.cells #[.int .i64 0, .int .i64 0, .string ⟨#[]⟩, .int .i64 0, .int .i64 0, .string ⟨#[]⟩] 50)) W.heap.size zeroVal zeroVal := ⟨by simp, by simp [go_sem, zeroVal], by simp [go_sem, zeroVal], by simp [go_sem, zeroVal], by simp [go_sem, zeroVal], by simp [go_sem, zeroVal], by simp [go_sem, zeroVal], fun o => by simp [go_sem]⟩
  have bA : Below W.heap.size W (W.alloc (.cells #[.int .i64 0, .int .i64 0, .string ⟨#[]⟩, .int .i64 0, .int .i64 0, .string ⟨#[]⟩] 50)) := ext_alloc (ext_refl _) _
  have bw := HB.out.trans (bA.mono HB.out.size)
  have HSA : ES w (W.alloc (.cells #[.int .i64 0, .int .i64 0, .string ⟨#[]⟩, .int .i64 0, .int .i64 0, .string ⟨#[]⟩] 50)) g r W.heap.size op v rel col n s q len c zeroVal zeroVal C P R _ _ := ⟨HE0.out.on bA, HT0.out.on bA, hA, HDw.out.on bw, bw⟩
  obtain ⟨h, hhd⟩ : ∃ h, h = W.heap.size := ⟨_, rfl⟩
  have HGH := Lib.hid (show h = r + 1 by rw [hhd]; exact HZ.out)
  have HCC := Lib.hid (show C < g ∧ P < g ∧ R < g by rw [HGW.out]; exact ⟨HDw.out.lC, HDw.out.lP, HDw.out.lR⟩)
  obtain ⟨U, hU⟩ : ∃ U, U = W.alloc (.cells #[.int .i64 0, .int .i64 0, .string ⟨#[]⟩, .int .i64 0, .int .i64 0, .string ⟨#[]⟩] 50) := ⟨_, rfl⟩
  rw [← hU, ← hhd] at HSA
  have HSU := Lib.hid HSA
  have HUW := Lib.hid hU
  have HHD := Lib.hid hhd
  clear hA bA bw HSA hU hhd
  go_upto_region 9 with fail
  rw [← HUW.out, ← HHD.out]
  clear HUW HHD HB HE0 HT0 HDw lt c0 c1 c2 c3 c4 c5 c6 c7 c8 ltR t0 t1 t2 tf q1 q2 q3
  obtain ⟨lt, c0, c1, c2, c3, c4, c5, c6, c7, c8⟩ := HSU.out.e
  obtain ⟨ltA, a0, a1, a2, a3, a4, a5, af⟩ := HSU.out.a
  obtain ⟨ltR, t0, t1, t2, tf⟩ := HSU.out.t
  have cK := HSU.out.k.cR
  have lK := HSU.out.k.lR
  rcases l with _ | ⟨y0, _ | ⟨y1, _ | ⟨y2, r⟩⟩⟩
  · exfalso
    have h1 := (head_parts HH.out).1
    rw [HLEN.out] at h1
    have := H4.out
    unfold wantsOf at h1
    simp only [List.length_nil] at h1
    split at h1
    · omega
    · split at h1
      · omega
      · split at h1 <;> omega
  · skip
    obtain rfl : len = 1 := HLEN.out
    have HLU := Lib.hid (ExL.ext HSU.out.b _ _ _ HL.out)
    have HKU := Lib.hid (HMw.out.on HSU.out.b)
    have hl_ := ExL.at_ (j := 0) (x := y0) HLU.out rfl
    obtain ⟨g0, off0, cs0, hq0, hg0, hx0, hcell⟩ := hl_
    subst hq0
    have HX0 := Lib.hid hx0
    obtain ⟨op1, v1, rel1, col1, n1, s1, l1⟩ := y0
    rw [ExM.iff] at hx0
    obtain ⟨hv1, qq0, cc0, rfl, -, -⟩ := hx0
    have HV1 := Lib.hid (eval_in HRV.out (op := op1) (v := v1) (rel := rel1) (col := col1) (n := n1) (s := s1) (l := l1) hv1.2.1)
    clear hv1
    have f0 := hcell 0 _ rfl
    have f1 := hcell 1 _ rfl
    have f2 := hcell 2 _ rfl
    have f3 := hcell 3 _ rfl
    have f4 := hcell 4 _ rfl
    have f5 := hcell 5 _ rfl
    have f6 := hcell 6 _ rfl
    have f7 := hcell 7 _ rfl
    have f8 := hcell 8 _ rfl
    simp only [Nat.zero_mul, Nat.add_zero] at f0 f1 f2 f3 f4 f5 f6 f7 f8
    clear hcell
    go_wp2_with fail
    refine wp_loop_rounds 2 ?_
    rw [rounds_succ]
    go_wp2_with fail
    refine (HI.out (Ex.mk op1 v1 rel1 col1 n1 s1 l1) (by simp) _ _ C P R _ _ cols ps (ExM.ext (ext_alloc (ext_refl _) _) _ _ HX0.out) (HSU.out.k.on (ext_alloc (ext_refl _) _)) (HKU.out.on (ext_alloc (ext_refl _) _)) HRV.out).mono ?_
    rintro e Z ⟨he, hb⟩
    have hb' := ext_trans (ext_alloc (ext_refl U) _) hb
    have HSZ := Lib.hid (HSU.out.on hb')
    clear f0 f1 f2 f3 f4 f5 f6 f7 f8
    clear lt c0 c1 c2 c3 c4 c5 c6 c7 c8 ltA a0 a1 a2 a3 a4 a5 af ltR t0 t1 t2 tf cK lK
    clear hb hb'
    obtain ⟨⟨rk0, rn0, rs0⟩, er0, hr0⟩ : ∃ (z : Val) (er : Int), evalE cols ps (Ex.mk op1 v1 rel1 col1 n1 s1 l1) = (z, er) := ⟨_, _, rfl⟩
    rw [hr0] at he HV1
    simp only at he HV1
    have HR0 := Lib.hid hr0
    clear hr0
    subst he
    obtain ⟨lt, c0, c1, c2, c3, c4, c5, c6, c7, c8⟩ := HSZ.out.e
    obtain ⟨ltA, a0, a1, a2, a3, a4, a5, af⟩ := HSZ.out.a
    obtain ⟨ltR, t0, t1, t2, tf⟩ := HSZ.out.t
    have cK := HSZ.out.k.cR
    have lK := HSZ.out.k.lR
    by_cases he0 : er0 = 0
    · subst he0
      have hne : ((0 : Int) != 0) = false := rfl
      have HSV := Lib.hid ((HSZ.out.store0 (by have := HGH.out; have := HGR.out; omega) (by have := HGH.out; have := HGR.out; omega) (by have := HCC.out; have := HGH.out; have := HGR.out; omega) (by have := HCC.out; have := HGH.out; have := HGR.out; omega) (by have := HCC.out; have := HGH.out; have := HGR.out; omega) (by have := HGH.out; have := HGR.out; have := HGW.out; omega) ⟨rk0, rn0, rs0⟩).on (ext_alloc (ext_refl _) (.cells #[.int .i64 rk0, .int .i64 rn0, .string rs0] 23)))
      go_wp2_with fail
      obtain ⟨V, hV⟩ : ∃ X, X = (((Z.setCell ⟨h, 0, none⟩ (.int .i64 rk0)).setCell ⟨h, 1, none⟩ (.int .i64 rn0)).setCell ⟨h, 2, none⟩ (.string rs0)).alloc (.cells #[.int .i64 rk0, .int .i64 rn0, .string rs0] 23) := ⟨_, rfl⟩
      rw [← hV] at HSV
      rw [← hV]
      clear hV hne
      clear lt c0 c1 c2 c3 c4 c5 c6 c7 c8 ltA a0 a1 a2 a3 a4 a5 af ltR t0 t1 t2 tf cK lK
      obtain ⟨lt, c0, c1, c2, c3, c4, c5, c6, c7, c8⟩ := HSV.out.e
      obtain ⟨ltA, a0, a1, a2, a3, a4, a5, af⟩ := HSV.out.a
      obtain ⟨ltR, t0, t1, t2, tf⟩ := HSV.out.t
      have cK := HSV.out.k.cR
      have lK := HSV.out.k.lR
      go_wp2_with fail
      rw [rounds_succ]
      go_wp2_with fail
      refine (apply_any op ⟨rk0, rn0, rs0⟩ zeroVal V HV1.out rfl).mono ?_
      rintro e X ⟨he, hbX⟩
      have HBX := Lib.hid (HSV.out.b.trans (hbX.mono HSV.out.b.size))
      have T := HSV.out.t.on hbX
      obtain ⟨z, hz⟩ : ∃ z : Val × Int, z = applyS op ⟨rk0, rn0, rs0⟩ zeroVal := ⟨_, rfl⟩
      have HQ := Lib.hid (show evalE cols ps (.mk op v rel col n s [(Ex.mk op1 v1 rel1 col1 n1 s1 l1)]) = z by rw [eval_op H4.out, evalL_ok (by rw [HR0.out]), evalL_nil, HR0.out]; exact hz.symm)
      rw [← hz] at he
      clear hz hbX
      clear lt c0 c1 c2 c3 c4 c5 c6 c7 c8 ltA a0 a1 a2 a3 a4 a5 af ltR t0 t1 t2 tf cK lK
      obtain ⟨⟨rk, rn, rs⟩, er⟩ := z
      have TT := Lib.hid (T.all rk rn rs)
      obtain ⟨tl, t0, t1, t2, tf⟩ := T
      have HE := Lib.hid (ext_val HBX.out (by have := HGR.out; have := HGW.out; omega : w.heap.size ≤ r) rk rn rs)
      subst he
      go_wp2_with fail
      obtain ⟨Q, hQ⟩ : ∃ X', X' = (((X.setCell ⟨r, 0, none⟩ (.int .i64 rk)).setCell ⟨r, 1, none⟩ (.int .i64 rn)).setCell ⟨r, 2, none⟩ (.string rs)) := ⟨_, rfl⟩
      rw [← hQ] at TT HE
      rw [← hQ]
      obtain ⟨-, y0, y1, y2, -⟩ := TT.out
      refine bodyPost_ret (v := .tuple #[.agg #[.int .i64 rk, .int .i64 rn, .string rs], .int .i64 er]) (by simp [results, Tryz.results14, go_sem, y0, y1, y2]) rfl ⟨by rw [HQ.out], HE.out⟩
    · have hne : (er0 != 0) = true := by simpa using he0
      have HQ := Lib.hid (show evalE cols ps (.mk op v rel col n s [(Ex.mk op1 v1 rel1 col1 n1 s1 l1)]) = (zeroVal, er0) by rw [eval_op H4.out, evalL_bad (by rw [HR0.out]; exact he0), HR0.out])
      clear he0
      have TT := Lib.hid ((HSZ.out.t.all 0 0 ⟨#[]⟩).on (ext_alloc (ext_refl _) (.cells #[.int .i64 rk0, .int .i64 rn0, .string rs0] 23)))
      have HE := Lib.hid (ext_alloc (ext_val HSZ.out.b (by have := HGR.out; have := HGW.out; omega : w.heap.size ≤ r) 0 0 ⟨#[]⟩) (.cells #[.int .i64 rk0, .int .i64 rn0, .string rs0] 23))
      go_wp2_with fail
      obtain ⟨Q, hQ⟩ : ∃ X', X' = ((((Z.setCell ⟨r, 0, none⟩ (.int .i64 0)).setCell ⟨r, 1, none⟩ (.int .i64 0)).setCell ⟨r, 2, none⟩ (.string ⟨#[]⟩))).alloc (.cells #[.int .i64 rk0, .int .i64 rn0, .string rs0] 23) := ⟨_, rfl⟩
      rw [← hQ] at TT HE
      rw [← hQ]
      obtain ⟨-, y0, y1, y2, -⟩ := TT.out
      refine bodyPost_ret (v := .tuple #[.agg #[.int .i64 0, .int .i64 0, .string ⟨#[]⟩], .int .i64 er0]) (by simp [results, Tryz.results14, go_sem, y0, y1, y2]) rfl ⟨by rw [HQ.out]; rfl, HE.out⟩
  · skip
    obtain rfl : len = 2 := HLEN.out
    have HLU := Lib.hid (ExL.ext HSU.out.b _ _ _ HL.out)
    have HKU := Lib.hid (HMw.out.on HSU.out.b)
    have hl_ := ExL.at_ (j := 0) (x := y0) HLU.out rfl
    obtain ⟨g0, off0, cs0, hq0, hg0, hx0, hcell⟩ := hl_
    subst hq0
    have HX0 := Lib.hid hx0
    obtain ⟨op1, v1, rel1, col1, n1, s1, l1⟩ := y0
    rw [ExM.iff] at hx0
    obtain ⟨hv1, qq0, cc0, rfl, -, -⟩ := hx0
    have HV1 := Lib.hid (eval_in HRV.out (op := op1) (v := v1) (rel := rel1) (col := col1) (n := n1) (s := s1) (l := l1) hv1.2.1)
    clear hv1
    have f0 := hcell 0 _ rfl
    have f1 := hcell 1 _ rfl
    have f2 := hcell 2 _ rfl
    have f3 := hcell 3 _ rfl
    have f4 := hcell 4 _ rfl
    have f5 := hcell 5 _ rfl
    have f6 := hcell 6 _ rfl
    have f7 := hcell 7 _ rfl
    have f8 := hcell 8 _ rfl
    simp only [Nat.zero_mul, Nat.add_zero] at f0 f1 f2 f3 f4 f5 f6 f7 f8
    clear hcell
    go_wp2_with fail
    refine wp_loop_rounds 3 ?_
    rw [rounds_succ]
    go_wp2_with fail
    refine (HI.out (Ex.mk op1 v1 rel1 col1 n1 s1 l1) (by simp) _ _ C P R _ _ cols ps (ExM.ext (ext_alloc (ext_refl _) _) _ _ HX0.out) (HSU.out.k.on (ext_alloc (ext_refl _) _)) (HKU.out.on (ext_alloc (ext_refl _) _)) HRV.out).mono ?_
    rintro e Z ⟨he, hb⟩
    have hb' := ext_trans (ext_alloc (ext_refl U) _) hb
    have HSZ := Lib.hid (HSU.out.on hb')
    clear f0 f1 f2 f3 f4 f5 f6 f7 f8
    clear lt c0 c1 c2 c3 c4 c5 c6 c7 c8 ltA a0 a1 a2 a3 a4 a5 af ltR t0 t1 t2 tf cK lK
    clear hb hb'
    obtain ⟨⟨rk0, rn0, rs0⟩, er0, hr0⟩ : ∃ (z : Val) (er : Int), evalE cols ps (Ex.mk op1 v1 rel1 col1 n1 s1 l1) = (z, er) := ⟨_, _, rfl⟩
    rw [hr0] at he HV1
    simp only at he HV1
    have HR0 := Lib.hid hr0
    clear hr0
    subst he
    obtain ⟨lt, c0, c1, c2, c3, c4, c5, c6, c7, c8⟩ := HSZ.out.e
    obtain ⟨ltA, a0, a1, a2, a3, a4, a5, af⟩ := HSZ.out.a
    obtain ⟨ltR, t0, t1, t2, tf⟩ := HSZ.out.t
    have cK := HSZ.out.k.cR
    have lK := HSZ.out.k.lR
    by_cases he0 : er0 = 0
    · subst he0
      have hne : ((0 : Int) != 0) = false := rfl
      have HSV := Lib.hid ((HSZ.out.store0 (by have := HGH.out; have := HGR.out; omega) (by have := HGH.out; have := HGR.out; omega) (by have := HCC.out; have := HGH.out; have := HGR.out; omega) (by have := HCC.out; have := HGH.out; have := HGR.out; omega) (by have := HCC.out; have := HGH.out; have := HGR.out; omega) (by have := HGH.out; have := HGR.out; have := HGW.out; omega) ⟨rk0, rn0, rs0⟩).on (ext_alloc (ext_refl _) (.cells #[.int .i64 rk0, .int .i64 rn0, .string rs0] 23)))
      go_wp2_with fail
      obtain ⟨V, hV⟩ : ∃ X, X = (((Z.setCell ⟨h, 0, none⟩ (.int .i64 rk0)).setCell ⟨h, 1, none⟩ (.int .i64 rn0)).setCell ⟨h, 2, none⟩ (.string rs0)).alloc (.cells #[.int .i64 rk0, .int .i64 rn0, .string rs0] 23) := ⟨_, rfl⟩
      rw [← hV] at HSV
      rw [← hV]
      clear hV hne
      clear lt c0 c1 c2 c3 c4 c5 c6 c7 c8 ltA a0 a1 a2 a3 a4 a5 af ltR t0 t1 t2 tf cK lK
      obtain ⟨lt, c0, c1, c2, c3, c4, c5, c6, c7, c8⟩ := HSV.out.e
      obtain ⟨ltA, a0, a1, a2, a3, a4, a5, af⟩ := HSV.out.a
      obtain ⟨ltR, t0, t1, t2, tf⟩ := HSV.out.t
      have cK := HSV.out.k.cR
      have lK := HSV.out.k.lR
      go_wp2_with fail
      rw [rounds_succ]
      have HLV := Lib.hid (ExL.ext HSV.out.b _ _ _ HL.out)
      have HKV := Lib.hid (HMw.out.on HSV.out.b)
      have hl_ := ExL.at_ (j := 1) (x := y1) HLV.out rfl
      obtain ⟨g1, off1, cs1, hq1, hg1, hx1, hcell⟩ := hl_
      obtain ⟨rfl, rfl⟩ : g1 = g0 ∧ off1 = off0 := by cases hq1; exact ⟨rfl, rfl⟩
      clear hq1
      have HX1 := Lib.hid hx1
      obtain ⟨op2, v2, rel2, col2, n2, s2, l2⟩ := y1
      rw [ExM.iff] at hx1
      obtain ⟨hv2, qq1, cc1, rfl, -, -⟩ := hx1
      have HV2 := Lib.hid (eval_in HRV.out (op := op2) (v := v2) (rel := rel2) (col := col2) (n := n2) (s := s2) (l := l2) hv2.2.1)
      clear hv2
      have f0 := hcell 0 _ rfl
      have f1 := hcell 1 _ rfl
      have f2 := hcell 2 _ rfl
      have f3 := hcell 3 _ rfl
      have f4 := hcell 4 _ rfl
      have f5 := hcell 5 _ rfl
      have f6 := hcell 6 _ rfl
      have f7 := hcell 7 _ rfl
      have f8 := hcell 8 _ rfl
      clear hcell
      go_wp2_with fail
      refine (HI.out (Ex.mk op2 v2 rel2 col2 n2 s2 l2) (by simp) _ _ C P R _ _ cols ps (ExM.ext (ext_alloc (ext_refl _) _) _ _ HX1.out) (HSV.out.k.on (ext_alloc (ext_refl _) _)) (HKV.out.on (ext_alloc (ext_refl _) _)) HRV.out).mono ?_
      rintro e T ⟨he, hb⟩
      have hb' := ext_trans (ext_alloc (ext_refl V) _) hb
      have HST := Lib.hid (HSV.out.on hb')
      clear f0 f1 f2 f3 f4 f5 f6 f7 f8
      clear lt c0 c1 c2 c3 c4 c5 c6 c7 c8 ltA a0 a1 a2 a3 a4 a5 af ltR t0 t1 t2 tf cK lK
      clear hb hb'
      obtain ⟨⟨rk1, rn1, rs1⟩, er1, hr1⟩ : ∃ (z : Val) (er : Int), evalE cols ps (Ex.mk op2 v2 rel2 col2 n2 s2 l2) = (z, er) := ⟨_, _, rfl⟩
      rw [hr1] at he HV2
      simp only at he HV2
      have HR1 := Lib.hid hr1
      clear hr1
      subst he
      obtain ⟨lt, c0, c1, c2, c3, c4, c5, c6, c7, c8⟩ := HST.out.e
      obtain ⟨ltA, a0, a1, a2, a3, a4, a5, af⟩ := HST.out.a
      obtain ⟨ltR, t0, t1, t2, tf⟩ := HST.out.t
      have cK := HST.out.k.cR
      have lK := HST.out.k.lR
      by_cases he1 : er1 = 0
      · subst he1
        have hne : ((0 : Int) != 0) = false := rfl
        have HSN := Lib.hid ((HST.out.store1 (by have := HGH.out; have := HGR.out; omega) (by have := HGH.out; have := HGR.out; omega) (by have := HCC.out; have := HGH.out; have := HGR.out; omega) (by have := HCC.out; have := HGH.out; have := HGR.out; omega) (by have := HCC.out; have := HGH.out; have := HGR.out; omega) (by have := HGH.out; have := HGR.out; have := HGW.out; omega) ⟨rk1, rn1, rs1⟩).on (ext_alloc (ext_refl _) (.cells #[.int .i64 rk1, .int .i64 rn1, .string rs1] 23)))
        go_wp2_with fail
        obtain ⟨N, hN⟩ : ∃ X, X = (((T.setCell ⟨h, 3, none⟩ (.int .i64 rk1)).setCell ⟨h, 4, none⟩ (.int .i64 rn1)).setCell ⟨h, 5, none⟩ (.string rs1)).alloc (.cells #[.int .i64 rk1, .int .i64 rn1, .string rs1] 23) := ⟨_, rfl⟩
        rw [← hN] at HSN
        rw [← hN]
        clear hN hne
        clear lt c0 c1 c2 c3 c4 c5 c6 c7 c8 ltA a0 a1 a2 a3 a4 a5 af ltR t0 t1 t2 tf cK lK
        obtain ⟨lt, c0, c1, c2, c3, c4, c5, c6, c7, c8⟩ := HSN.out.e
        obtain ⟨ltA, a0, a1, a2, a3, a4, a5, af⟩ := HSN.out.a
        obtain ⟨ltR, t0, t1, t2, tf⟩ := HSN.out.t
        have cK := HSN.out.k.cR
        have lK := HSN.out.k.lR
        go_wp2_with fail
        rw [rounds_succ]
        go_wp2_with fail
        refine (apply_any op ⟨rk0, rn0, rs0⟩ ⟨rk1, rn1, rs1⟩ N HV1.out HV2.out).mono ?_
        rintro e X ⟨he, hbX⟩
        have HBX := Lib.hid (HSN.out.b.trans (hbX.mono HSN.out.b.size))
        have T := HSN.out.t.on hbX
        obtain ⟨z, hz⟩ : ∃ z : Val × Int, z = applyS op ⟨rk0, rn0, rs0⟩ ⟨rk1, rn1, rs1⟩ := ⟨_, rfl⟩
        have HQ := Lib.hid (show evalE cols ps (.mk op v rel col n s [(Ex.mk op1 v1 rel1 col1 n1 s1 l1), (Ex.mk op2 v2 rel2 col2 n2 s2 l2)]) = z by rw [eval_op H4.out, evalL_ok (by rw [HR0.out]), evalL_ok (by rw [HR1.out]), evalL_nil, HR0.out, HR1.out]; exact hz.symm)
        rw [← hz] at he
        clear hz hbX
        clear lt c0 c1 c2 c3 c4 c5 c6 c7 c8 ltA a0 a1 a2 a3 a4 a5 af ltR t0 t1 t2 tf cK lK
        obtain ⟨⟨rk, rn, rs⟩, er⟩ := z
        have TT := Lib.hid (T.all rk rn rs)
        obtain ⟨tl, t0, t1, t2, tf⟩ := T
        have HE := Lib.hid (ext_val HBX.out (by have := HGR.out; have := HGW.out; omega : w.heap.size ≤ r) rk rn rs)
        subst he
        go_wp2_with fail
        obtain ⟨Q, hQ⟩ : ∃ X', X' = (((X.setCell ⟨r, 0, none⟩ (.int .i64 rk)).setCell ⟨r, 1, none⟩ (.int .i64 rn)).setCell ⟨r, 2, none⟩ (.string rs)) := ⟨_, rfl⟩
        rw [← hQ] at TT HE
        rw [← hQ]
        obtain ⟨-, y0, y1, y2, -⟩ := TT.out
        refine bodyPost_ret (v := .tuple #[.agg #[.int .i64 rk, .int .i64 rn, .string rs], .int .i64 er]) (by simp [results, Tryz.results14, go_sem, y0, y1, y2]) rfl ⟨by rw [HQ.out], HE.out⟩
      · have hne : (er1 != 0) = true := by simpa using he1
        have HQ := Lib.hid (show evalE cols ps (.mk op v rel col n s [(Ex.mk op1 v1 rel1 col1 n1 s1 l1), (Ex.mk op2 v2 rel2 col2 n2 s2 l2)]) = (zeroVal, er1) by rw [eval_op H4.out, evalL_ok (by rw [HR0.out]), evalL_bad (by rw [HR1.out]; exact he1), HR1.out])
        clear he1
        have TT := Lib.hid ((HST.out.t.all 0 0 ⟨#[]⟩).on (ext_alloc (ext_refl _) (.cells #[.int .i64 rk1, .int .i64 rn1, .string rs1] 23)))
        have HE := Lib.hid (ext_alloc (ext_val HST.out.b (by have := HGR.out; have := HGW.out; omega : w.heap.size ≤ r) 0 0 ⟨#[]⟩) (.cells #[.int .i64 rk1, .int .i64 rn1, .string rs1] 23))
        go_wp2_with fail
        obtain ⟨Q, hQ⟩ : ∃ X', X' = ((((T.setCell ⟨r, 0, none⟩ (.int .i64 0)).setCell ⟨r, 1, none⟩ (.int .i64 0)).setCell ⟨r, 2, none⟩ (.string ⟨#[]⟩))).alloc (.cells #[.int .i64 rk1, .int .i64 rn1, .string rs1] 23) := ⟨_, rfl⟩
        rw [← hQ] at TT HE
        rw [← hQ]
        obtain ⟨-, y0, y1, y2, -⟩ := TT.out
        refine bodyPost_ret (v := .tuple #[.agg #[.int .i64 0, .int .i64 0, .string ⟨#[]⟩], .int .i64 er1]) (by simp [results, Tryz.results14, go_sem, y0, y1, y2]) rfl ⟨by rw [HQ.out]; rfl, HE.out⟩
    · have hne : (er0 != 0) = true := by simpa using he0
      have HQ := Lib.hid (show evalE cols ps (.mk op v rel col n s [(Ex.mk op1 v1 rel1 col1 n1 s1 l1), y1]) = (zeroVal, er0) by rw [eval_op H4.out, evalL_bad (by rw [HR0.out]; exact he0), HR0.out])
      clear he0
      have TT := Lib.hid ((HSZ.out.t.all 0 0 ⟨#[]⟩).on (ext_alloc (ext_refl _) (.cells #[.int .i64 rk0, .int .i64 rn0, .string rs0] 23)))
      have HE := Lib.hid (ext_alloc (ext_val HSZ.out.b (by have := HGR.out; have := HGW.out; omega : w.heap.size ≤ r) 0 0 ⟨#[]⟩) (.cells #[.int .i64 rk0, .int .i64 rn0, .string rs0] 23))
      go_wp2_with fail
      obtain ⟨Q, hQ⟩ : ∃ X', X' = ((((Z.setCell ⟨r, 0, none⟩ (.int .i64 0)).setCell ⟨r, 1, none⟩ (.int .i64 0)).setCell ⟨r, 2, none⟩ (.string ⟨#[]⟩))).alloc (.cells #[.int .i64 rk0, .int .i64 rn0, .string rs0] 23) := ⟨_, rfl⟩
      rw [← hQ] at TT HE
      rw [← hQ]
      obtain ⟨-, y0, y1, y2, -⟩ := TT.out
      refine bodyPost_ret (v := .tuple #[.agg #[.int .i64 0, .int .i64 0, .string ⟨#[]⟩], .int .i64 er0]) (by simp [results, Tryz.results14, go_sem, y0, y1, y2]) rfl ⟨by rw [HQ.out]; rfl, HE.out⟩
  · exfalso
    have h1 := head_two HH.out
    rw [HLEN.out] at h1
    simp only [List.length_cons] at h1
    omega
theorem evalC_any : ∀ (k : Nat) (x : Ex), x.deep ≤ k → x.okAll = true → EvalC x
  | 0, x, h, _ => absurd (deep_pos x) (by omega)
  | k + 1, .mk op v rel col n s l, h, ho => by
    rw [Ex.okAll, Bool.and_eq_true] at ho
    exact evalC_mk op v rel col n s l ho.1 fun y hy => evalC_any k y (by rw [Ex.deep] at h; have := deepL_of_mem hy; omega) (by obtain ⟨i, hi, he⟩ := List.getElem_of_mem hy; exact okL_all ho.2 (i := i) (by rw [List.getElem?_eq_getElem hi, he]))
open Go.RowKit
set_option maxRecDepth 100000
set_option maxHeartbeats 8000000 in
theorem deval_any (x : Ex) (cs : List Value) (w : World) (cv pv : Value) (cols : List (List Val)) (ps : List Val) (hx : ExM w x cs) (hM : VM w cv pv cols ps) (hRV : RV cols ps) (hG : GE w) :
    Calls Tryz.prog 6 #[.agg cs.toArray, cv, pv] w fun e w' => e = .returned (.tuple #[(evalR cols ps x).1.v, .int .i64 (evalR cols ps x).2]) ∧ Below w.heap.size w w' := by
  have HX := Lib.hid hx
  have HM := Lib.hid hM
  have HG := Lib.hid hG
  have HRV := Lib.hid hRV
  have HC := Lib.hid (fun h => evalC_any _ x (Nat.le_refl _) h)
  obtain ⟨op, v, rel, col, n, s, l⟩ := x
  rw [ExM.iff] at hx
  obtain ⟨-, q, c, rfl, -, -⟩ := hx
  obtain ⟨⟨cq, cc, rfl, hcc, hcm, -⟩, pq, pc, rfl, hpc, hpm, -⟩ := id HM.out
  obtain ⟨len, hlen⟩ : ∃ len, len = l.length := ⟨_, rfl⟩
  rw [← hlen] at HX ⊢
  clear hlen hM hG hRV
  have E0 := EB.new w op v rel col n s q len c 26
  obtain ⟨W1, hW1⟩ : ∃ W, W = w.alloc (.cells (exCells op v rel col n s q len c).toArray 26) := ⟨_, rfl⟩
  rw [← hW1] at E0
  have z1 : W1.heap.size = w.heap.size + 1 := by rw [hW1]; simp
  obtain ⟨W2, hW2⟩ : ∃ W, W = W1.alloc (.cells #[.slice cq cols.length cc] 27) := ⟨_, rfl⟩
  have x1 : W2.cell? ⟨w.heap.size + 1, 0, none⟩ = some (.slice cq cols.length cc) := by rw [hW2, ← z1]; simp [go_sem]
  have z2 : W2.heap.size = w.heap.size + 1 + 1 := by rw [hW2]; simp [z1]
  obtain ⟨W3, hW3⟩ : ∃ W, W = W2.alloc (.cells #[.slice pq ps.length pc] 28) := ⟨_, rfl⟩
  have x2 : W3.cell? ⟨w.heap.size + 1 + 1, 0, none⟩ = some (.slice pq ps.length pc) := by rw [hW3, ← z2]; simp [go_sem]
  have z3 : W3.heap.size = w.heap.size + 1 + 1 + 1 := by rw [hW3]; simp [z2]
  have T0 := TV.new W3
  obtain ⟨W, hW⟩ : ∃ W, W = W3.alloc (.cells #[.int .i64 0, .int .i64 0, .string ⟨#[]⟩] 23) := ⟨_, rfl⟩
  rw [← hW, z3] at T0
  have b3 : Below W3.heap.size W3 W := by rw [hW]; (repeat (first | exact ext_refl _ | assumption | (refine ext_alloc ?_ _) | (refine ext_drewN ?_ _) | refine ext_drew ?_ | (refine ext_set (by first | (simp; done) | (simp; omega)) _ ?_) | (refine ext_trans ?_ (by assumption))))
  have b2 : Below W2.heap.size W2 W := by rw [hW, hW3]; (repeat (first | exact ext_refl _ | assumption | (refine ext_alloc ?_ _) | (refine ext_drewN ?_ _) | refine ext_drew ?_ | (refine ext_set (by first | (simp; done) | (simp; omega)) _ ?_) | (refine ext_trans ?_ (by assumption))))
  have b1 : Below W1.heap.size W1 W := by rw [hW, hW3, hW2]; (repeat (first | exact ext_refl _ | assumption | (refine ext_alloc ?_ _) | (refine ext_drewN ?_ _) | refine ext_drew ?_ | (refine ext_set (by first | (simp; done) | (simp; omega)) _ ?_) | (refine ext_trans ?_ (by assumption))))
  have b : Below w.heap.size w W := by rw [hW, hW3, hW2, hW1]; (repeat (first | exact ext_refl _ | assumption | (refine ext_alloc ?_ _) | (refine ext_drewN ?_ _) | refine ext_drew ?_ | (refine ext_set (by first | (simp; done) | (simp; omega)) _ ?_) | (refine ext_trans ?_ (by assumption))))
  have z4 : W.heap.size = w.heap.size + 1 + 1 + 1 + 1 := by rw [hW]; simp [z3]
  have x1 := (b2.cell (p := ⟨w.heap.size + 1, 0, none⟩) (by show w.heap.size + 1 < W2.heap.size; omega)).trans x1
  have x2 := (b3.cell (p := ⟨w.heap.size + 1 + 1, 0, none⟩) (by show w.heap.size + 1 + 1 < W3.heap.size; omega)).trans x2
  have EW := E0.on b1
  have HWW := Lib.hid (show W = (((w.alloc (.cells (exCells op v rel col n s q len c).toArray 26)).alloc (.cells #[.slice cq cols.length cc] 27)).alloc (.cells #[.slice pq ps.length pc] 28)).alloc (.cells #[.int .i64 0, .int .i64 0, .string ⟨#[]⟩] 23) by rw [hW, hW3, hW2, hW1])
  have l1 : w.heap.size + 1 < W.heap.size := by omega
  have l2 : w.heap.size + 1 + 1 < W.heap.size := by omega
  have HB := Lib.hid b
  have HE0 := Lib.hid EW
  have HXW := Lib.hid (And.intro x1 (And.intro x2 (And.intro l1 (And.intro l2 T0))))
  clear hW hW1 hW2 hW3 E0 z1 z2 z3 z4 b b1 b2 b3 T0
  go_enter Tryz.func6, Tryz.ntmps6
  go_upto_region 1 with fail
  rw [← HWW.out]
  clear HWW
  obtain ⟨g, hg⟩ : ∃ g, g = w.heap.size := ⟨_, rfl⟩
  rw [← hg] at HXW EW HE0 x1 x2 l1 l2 ⊢
  have HGW := Lib.hid hg
  clear hg
  obtain ⟨lt, c0, c1, c2, c3, c4, c5, c6, c7, c8⟩ := EW
  go_wp2_with fail
  refine (dright_any _ _ W (ExM.ext HB.out _ _ HX.out) (HG.out.on HB.out)).mono ?_
  rintro e X ⟨he, hbX⟩
  have HBX := Lib.hid (HB.out.trans (hbX.mono HB.out.size))
  have EX := HE0.out.on hbX
  have HEX := Lib.hid EX
  have T := HXW.out.2.2.2.2.on hbX
  have x1 := (hbX.cell (p := ⟨_, _, none⟩) l1).trans HXW.out.1
  have x2 := (hbX.cell (p := ⟨_, _, none⟩) l2).trans HXW.out.2.1
  have l1 := Nat.lt_of_lt_of_le l1 hbX.size
  have l2 := Nat.lt_of_lt_of_le l2 hbX.size
  have HXX := Lib.hid (And.intro x1 (And.intro x2 (And.intro l1 (And.intro l2 T))))
  clear hbX T lt c0 c1 c2 c3 c4 c5 c6 c7 c8 HB HE0 HXW
  obtain ⟨lt, c0, c1, c2, c3, c4, c5, c6, c7, c8⟩ := EX
  cases hs : rightE (.mk op v rel col n s l) with
  | false =>
    have HQ := Lib.hid (show evalR cols ps (.mk op v rel col n s l) = (zeroVal, 1) by unfold evalR; rw [hs]; rfl)
    rw [hs] at he
    clear hs
    subst he
    have TT := Lib.hid (HXX.out.2.2.2.2.all 0 0 ⟨#[]⟩)
    have HE := Lib.hid (ext_val HBX.out (by have := HGW.out; omega : w.heap.size ≤ g + 1 + 1 + 1) 0 0 ⟨#[]⟩)
    obtain ⟨ltR, t0, t1, t2, tf⟩ := HXX.out.2.2.2.2
    go_wp2_with fail
    obtain ⟨Q, hQ⟩ : ∃ X', X' = (((X.setCell ⟨g + 1 + 1 + 1, 0, none⟩ (.int .i64 0)).setCell ⟨g + 1 + 1 + 1, 1, none⟩ (.int .i64 0)).setCell ⟨g + 1 + 1 + 1, 2, none⟩ (.string ⟨#[]⟩)) := ⟨_, rfl⟩
    rw [← hQ] at TT HE
    rw [← hQ]
    obtain ⟨-, y0, y1, y2, -⟩ := TT.out
    refine bodyPost_ret (v := .tuple #[.agg #[.int .i64 0, .int .i64 0, .string ⟨#[]⟩], .int .i64 1]) (by simp [results, Tryz.results6, go_sem, y0, y1, y2]) rfl ⟨by rw [HQ.out]; rfl, HE.out⟩
  | true =>
    have HR := Lib.hid hs
    have HP := Lib.hid (rightE_parts hs)
    rw [hs] at he
    clear hs
    subst he
    go_wp2_with fail
    refine (refers_val _ _ X _ _ cols ps (ExM.ext HBX.out _ _ HX.out) HP.out.1 (HM.out.on HBX.out)).mono ?_
    rintro e Y ⟨he, hbY⟩
    rw [← there_nodes] at he
    have HBY := Lib.hid (HBX.out.trans (hbY.mono HBX.out.size))
    have EY := HEX.out.on hbY
    have HEY := Lib.hid EY
    have T := HXX.out.2.2.2.2.on hbY
    obtain ⟨x1, x2, l1, l2, -⟩ := HXX.out
    have x1 := (hbY.cell (p := ⟨_, _, none⟩) l1).trans x1
    have x2 := (hbY.cell (p := ⟨_, _, none⟩) l2).trans x2
    have l1 := Nat.lt_of_lt_of_le l1 hbY.size
    have l2 := Nat.lt_of_lt_of_le l2 hbY.size
    have HXY := Lib.hid (And.intro x1 (And.intro x2 (And.intro l1 (And.intro l2 T))))
    clear hbY T lt c0 c1 c2 c3 c4 c5 c6 c7 c8 HBX HEX HXX
    obtain ⟨lt, c0, c1, c2, c3, c4, c5, c6, c7, c8⟩ := EY
    cases hs : thereE cols ps (.mk op v rel col n s l) with
    | false =>
      have HQ := Lib.hid (show evalR cols ps (.mk op v rel col n s l) = (zeroVal, 1) by unfold evalR; rw [hs, Bool.and_false]; rfl)
      rw [hs] at he
      clear hs
      subst he
      have TT := Lib.hid (HXY.out.2.2.2.2.all 0 0 ⟨#[]⟩)
      have HE := Lib.hid (ext_val HBY.out (by have := HGW.out; omega : w.heap.size ≤ g + 1 + 1 + 1) 0 0 ⟨#[]⟩)
      obtain ⟨ltR, t0, t1, t2, tf⟩ := HXY.out.2.2.2.2
      go_wp2_with fail
      obtain ⟨Q, hQ⟩ : ∃ X', X' = (((Y.setCell ⟨g + 1 + 1 + 1, 0, none⟩ (.int .i64 0)).setCell ⟨g + 1 + 1 + 1, 1, none⟩ (.int .i64 0)).setCell ⟨g + 1 + 1 + 1, 2, none⟩ (.string ⟨#[]⟩)) := ⟨_, rfl⟩
      rw [← hQ] at TT HE
      rw [← hQ]
      obtain ⟨-, y0, y1, y2, -⟩ := TT.out
      refine bodyPost_ret (v := .tuple #[.agg #[.int .i64 0, .int .i64 0, .string ⟨#[]⟩], .int .i64 1]) (by simp [results, Tryz.results6, go_sem, y0, y1, y2]) rfl ⟨by rw [HQ.out]; rfl, HE.out⟩
    | true =>
      have HQ := Lib.hid (show evalR cols ps (.mk op v rel col n s l) = evalE cols ps (.mk op v rel col n s l) by unfold evalR; rw [HR.out, hs]; rfl)
      rw [hs] at he
      clear hs
      subst he
      go_upto_region 5 with fail
      obtain ⟨R, hR⟩ : ∃ R, R = Y.heap.size := ⟨_, rfl⟩
      obtain ⟨V, hV⟩ : ∃ V, V = Y.alloc (.cells #[.func (.func 14) #[] #[.pointer (some ⟨g + 1, 0, none⟩), .pointer (some ⟨g + 1 + 1, 0, none⟩), .pointer (some ⟨Y.heap.size, 0, none⟩)]] 47) := ⟨_, rfl⟩
      rw [← hV]
      have bV : Below Y.heap.size Y V := by rw [hV]; (repeat (first | exact ext_refl _ | assumption | (refine ext_alloc ?_ _) | (refine ext_drewN ?_ _) | refine ext_drew ?_ | (refine ext_set (by first | (simp; done) | (simp; omega)) _ ?_) | (refine ext_trans ?_ (by assumption))))
      have cR : V.cell? ⟨R, 0, none⟩ = some (.func (.func 14) #[] #[.pointer (some ⟨g + 1, 0, none⟩), .pointer (some ⟨g + 1 + 1, 0, none⟩), .pointer (some ⟨R, 0, none⟩)]) := by rw [hV, hR]; simp [go_sem]
      have lR : R < V.heap.size := by rw [hV, hR]; simp
      have EV := HEY.out.on bV
      have hD : KE V (g + 1) (g + 1 + 1) R (.slice cq cols.length cc) (.slice pq ps.length pc) :=
        ⟨(bV.cell (p := ⟨_, _, none⟩) l1).trans x1, (bV.cell (p := ⟨_, _, none⟩) l2).trans x2, cR, Nat.lt_of_lt_of_le l1 bV.size, Nat.lt_of_lt_of_le l2 bV.size, lR⟩
      have HBV := Lib.hid (HBY.out.trans (bV.mono HBY.out.size))
      have HD := Lib.hid hD
      have HTV := Lib.hid (HXY.out.2.2.2.2.on bV)
      rw [← hR]
      clear hV bV hD x1 x2 l1 l2 lt c0 c1 c2 c3 c4 c5 c6 c7 c8 HBY HEY HXY hR
      obtain ⟨lt, c0, c1, c2, c3, c4, c5, c6, c7, c8⟩ := EV
      go_wp2_with fail
      refine (HC.out HP.out.1 V _ _ _ R _ _ cols ps (ExM.ext HBV.out _ _ HX.out) HD.out (HM.out.on HBV.out) HRV.out).mono ?_
      rintro e Z ⟨he, hbZ⟩
      have HBZ := Lib.hid (HBV.out.trans (hbZ.mono HBV.out.size))
      have T := HTV.out.on hbZ
      clear hbZ lt c0 c1 c2 c3 c4 c5 c6 c7 c8 cR lR
      obtain ⟨z, hz⟩ : ∃ z, z = evalE cols ps (.mk op v rel col n s l) := ⟨_, rfl⟩
      rw [← hz] at he HQ
      clear hz
      obtain ⟨⟨rk, rn, rs⟩, er⟩ := z
      have TT := Lib.hid (T.all rk rn rs)
      obtain ⟨ltR, t0, t1, t2, tf⟩ := T
      have HE := Lib.hid (ext_val HBZ.out (by have := HGW.out; omega : w.heap.size ≤ g + 1 + 1 + 1) rk rn rs)
      subst he
      go_wp2_with fail
      obtain ⟨Q, hQ⟩ : ∃ X', X' = (((Z.setCell ⟨g + 1 + 1 + 1, 0, none⟩ (.int .i64 rk)).setCell ⟨g + 1 + 1 + 1, 1, none⟩ (.int .i64 rn)).setCell ⟨g + 1 + 1 + 1, 2, none⟩ (.string rs)) := ⟨_, rfl⟩
      rw [← hQ] at TT HE
      rw [← hQ]
      obtain ⟨-, y0, y1, y2, -⟩ := TT.out
      refine bodyPost_ret (v := .tuple #[.agg #[.int .i64 rk, .int .i64 rn, .string rs], .int .i64 er]) (by simp [results, Tryz.results6, go_sem, y0, y1, y2]) rfl ⟨by rw [HQ.out], HE.out⟩
end Go.Proofs.YtklgoajgchfmeaaGreatDoor
