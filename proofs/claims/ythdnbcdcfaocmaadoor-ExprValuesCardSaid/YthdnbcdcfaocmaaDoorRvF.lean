/- The reference's Eval; ExprValues: the walk. -/
import Derived.Test.YthdnbcdcfaocmaaDoorRvE
namespace Go.Proofs.YthdnbcdcfaocmaaDoor
open Go.RowKit Go.Deep
set_option maxRecDepth 100000

set_option maxHeartbeats 8000000 in
theorem revalE_any (x : Ex) (cs : List Value) (w : World) (cv pv : Value) (cols : List (List Val)) (ps : List Val) (hx : ExM w x cs) (hM : VM w cv pv cols ps) (hRV : RV cols ps) :
    Calls Tryd.prog 28 #[.agg cs.toArray, cv, pv] w fun e w' => e = .returned (.tuple #[(evalR cols ps x).1.v, .int .i64 (evalR cols ps x).2]) ∧ Below w.heap.size w w' := by
  have hx0 := hx
  obtain ⟨op, v, rel, col, n, s, l⟩ := x
  rw [ExM.iff] at hx
  obtain ⟨-, q, c, rfl, -, hl⟩ := hx
  obtain ⟨len, hlen⟩ : ∃ len, len = l.length := ⟨_, rfl⟩
  have HLEN := Lib.hid hlen
  rw [← hlen] at ⊢
  have HMw := Lib.hid hM
  have HRV := Lib.hid hRV
  have HX := Lib.hid hx0
  rw [← hlen] at HX
  clear hl hM hRV hlen hx0
  obtain ⟨⟨cq, cc, rfl, hcc, hcm, -⟩, pq, pc, rfl, hpc, hpm, -⟩ := id HMw.out
  have E0 := EB.new w op v rel col n s q len c 26
  obtain ⟨W1, hW1⟩ : ∃ W, W = w.alloc (.cells (exCells op v rel col n s q len c).toArray 26) := ⟨_, rfl⟩
  rw [← hW1] at E0
  have z1 : W1.heap.size = w.heap.size + 1 := by rw [hW1]; simp
  have T0 := TV.new W1
  obtain ⟨W, hW⟩ : ∃ W, W = W1.alloc (.cells #[.int .i64 0, .int .i64 0, .string ⟨#[]⟩] 23) := ⟨_, rfl⟩
  rw [← hW, z1] at T0
  have b1 : Below W1.heap.size W1 W := by rw [hW]; (repeat (first | exact ext_refl _ | assumption | (refine ext_alloc ?_ _) | (refine ext_drewN ?_ _) | refine ext_drew ?_ | (refine ext_set (by first | (simp; done) | (simp; omega)) _ ?_) | (refine ext_trans ?_ (by assumption))))
  have b : Below w.heap.size w W := by rw [hW, hW1]; (repeat (first | exact ext_refl _ | assumption | (refine ext_alloc ?_ _) | (refine ext_drewN ?_ _) | refine ext_drew ?_ | (refine ext_set (by first | (simp; done) | (simp; omega)) _ ?_) | (refine ext_trans ?_ (by assumption))))
  have E1 := E0.on b1
  have HWW := Lib.hid (show W = (w.alloc (.cells (exCells op v rel col n s q len c).toArray 26)).alloc (.cells #[.int .i64 0, .int .i64 0, .string ⟨#[]⟩] 23) by rw [hW, hW1])
  clear hW hW1 E0 z1 b1
  go_enter Tryd.func28, Tryd.ntmps28
  go_upto_region 1 with fail
  rw [← HWW.out]
  clear HWW
  obtain ⟨g, hg⟩ : ∃ g, g = w.heap.size := ⟨_, rfl⟩
  have HGW := Lib.hid hg
  rw [← hg] at E1 T0 ⊢
  obtain ⟨r, hr⟩ : ∃ r, r = g + 1 := ⟨_, rfl⟩
  have HGR := Lib.hid hr
  rw [← hr] at T0 ⊢
  have HS := Lib.hid (show RS8 w W g r op v rel col n s q len c from ⟨E1, T0, b⟩)
  clear hg hr b
  obtain ⟨lt, c0, c1, c2, c3, c4, c5, c6, c7, c8⟩ := E1
  obtain ⟨ltR, t0, t1, t2, tf⟩ := T0
  go_wp2_with fail
  refine (rightE_any _ _ W (ExM.ext HS.out.b _ _ HX.out)).mono ?_
  rintro e X ⟨he, hbX⟩
  have HSX := Lib.hid (HS.out.on hbX)
  clear hbX
  clear lt c0 c1 c2 c3 c4 c5 c6 c7 c8 ltR t0 t1 t2 tf
  obtain ⟨lt, c0, c1, c2, c3, c4, c5, c6, c7, c8⟩ := HSX.out.e
  obtain ⟨ltR, t0, t1, t2, tf⟩ := HSX.out.t
  cases hs : rightE (.mk op v rel col n s l) with
  | false =>
    have HQ := Lib.hid (show evalR cols ps (.mk op v rel col n s l) = (zeroVal, 1) by unfold evalR; rw [hs]; rfl)
    rw [hs] at he
    clear hs
    subst he
    have TT := Lib.hid (HSX.out.t.all 0 0 ⟨#[]⟩)
    have HE := Lib.hid (ext_val HSX.out.b (by have := HGR.out; have := HGW.out; omega : w.heap.size ≤ r) 0 0 ⟨#[]⟩)
    go_wp2_with fail
    obtain ⟨Q, hQ⟩ : ∃ X', X' = (((X.setCell ⟨r, 0, none⟩ (.int .i64 0)).setCell ⟨r, 1, none⟩ (.int .i64 0)).setCell ⟨r, 2, none⟩ (.string ⟨#[]⟩)) := ⟨_, rfl⟩
    rw [← hQ] at TT HE
    rw [← hQ]
    obtain ⟨-, y0, y1, y2, -⟩ := TT.out
    refine bodyPost_ret (v := .tuple #[.agg #[.int .i64 0, .int .i64 0, .string ⟨#[]⟩], .int .i64 1]) (by simp [results, Tryd.results28, go_sem, y0, y1, y2]) rfl ⟨by rw [HQ.out]; rfl, HE.out⟩
  | true =>
    have HR := Lib.hid hs
    have HP := Lib.hid (rightE_parts hs)
    rw [hs] at he
    clear hs
    subst he
    go_wp2_with fail
    refine (rthere_any _ _ (Nat.le_refl _) HP.out.1 _ X _ _ cols ps (ExM.ext HSX.out.b _ _ HX.out) (HMw.out.on HSX.out.b)).mono ?_
    rintro e Y ⟨he, hbY⟩
    have HSY := Lib.hid (HSX.out.on hbY)
    clear hbY
    clear lt c0 c1 c2 c3 c4 c5 c6 c7 c8 ltR t0 t1 t2 tf
    obtain ⟨lt, c0, c1, c2, c3, c4, c5, c6, c7, c8⟩ := HSY.out.e
    obtain ⟨ltR, t0, t1, t2, tf⟩ := HSY.out.t
    cases hs : thereE cols ps (.mk op v rel col n s l) with
    | false =>
      have HQ := Lib.hid (show evalR cols ps (.mk op v rel col n s l) = (zeroVal, 1) by unfold evalR; rw [hs, Bool.and_false]; rfl)
      rw [hs] at he
      clear hs
      subst he
      have TT := Lib.hid (HSY.out.t.all 0 0 ⟨#[]⟩)
      have HE := Lib.hid (ext_val HSY.out.b (by have := HGR.out; have := HGW.out; omega : w.heap.size ≤ r) 0 0 ⟨#[]⟩)
      go_wp2_with fail
      obtain ⟨Q, hQ⟩ : ∃ X', X' = (((Y.setCell ⟨r, 0, none⟩ (.int .i64 0)).setCell ⟨r, 1, none⟩ (.int .i64 0)).setCell ⟨r, 2, none⟩ (.string ⟨#[]⟩)) := ⟨_, rfl⟩
      rw [← hQ] at TT HE
      rw [← hQ]
      obtain ⟨-, y0, y1, y2, -⟩ := TT.out
      refine bodyPost_ret (v := .tuple #[.agg #[.int .i64 0, .int .i64 0, .string ⟨#[]⟩], .int .i64 1]) (by simp [results, Tryd.results28, go_sem, y0, y1, y2]) rfl ⟨by rw [HQ.out]; rfl, HE.out⟩
    | true =>
      obtain ⟨⟨⟨rk, rn, rs⟩, er⟩, hz⟩ : ∃ z : Val × Int, z = evalE cols ps (.mk op v rel col n s l) := ⟨_, rfl⟩
      have HQ := Lib.hid (show evalR cols ps (.mk op v rel col n s l) = (⟨rk, rn, rs⟩, er) by unfold evalR; rw [hs, HR.out]; exact hz.symm)
      have HZ := Lib.hid hz
      have HTH := Lib.hid hs
      rw [hs] at he
      clear hs hz
      subst he
      go_wp2_with fail
      refine (revC_any _ _ (Nat.le_refl _) HP.out.1 Y _ _ _ cols ps (ExM.ext HSY.out.b _ _ HX.out) (HMw.out.on HSY.out.b) HRV.out HTH.out).mono ?_
      rintro e Z ⟨he, hbZ⟩
      have HSZ := Lib.hid (HSY.out.on hbZ)
      rw [← HZ.out] at he
      simp only at he
      subst he
      clear hbZ
      clear lt c0 c1 c2 c3 c4 c5 c6 c7 c8 ltR t0 t1 t2 tf
      obtain ⟨lt, c0, c1, c2, c3, c4, c5, c6, c7, c8⟩ := HSZ.out.e
      obtain ⟨ltR, t0, t1, t2, tf⟩ := HSZ.out.t
      have TT := Lib.hid (HSZ.out.t.all rk rn rs)
      have HE := Lib.hid (ext_val HSZ.out.b (by have := HGR.out; have := HGW.out; omega : w.heap.size ≤ r) rk rn rs)
      go_wp2_with fail
      obtain ⟨Q, hQ⟩ : ∃ X', X' = (((Z.setCell ⟨r, 0, none⟩ (.int .i64 rk)).setCell ⟨r, 1, none⟩ (.int .i64 rn)).setCell ⟨r, 2, none⟩ (.string rs)) := ⟨_, rfl⟩
      rw [← hQ] at TT HE
      rw [← hQ]
      obtain ⟨-, y0, y1, y2, -⟩ := TT.out
      refine bodyPost_ret (v := .tuple #[.agg #[.int .i64 rk, .int .i64 rn, .string rs], .int .i64 er]) (by simp [results, Tryd.results28, go_sem, y0, y1, y2]) rfl ⟨by rw [HQ.out], HE.out⟩

set_option maxHeartbeats 8000000 in
theorem exprValues_walk (x : Ex) (cs : List Value) (w : World) (cv pv : Value) (cols : List (List Val)) (ps : List Val) (hx : ExM w x cs) (hM : VM w cv pv cols ps) (hRV : RV cols ps) (hG : GE w) :
    Calls Tryd.prog 5 #[.agg cs.toArray, cv, pv] w fun e w' => e = .returned (.bool true) ∧ Below w.heap.size w w' := by
  have HX := Lib.hid hx
  have HM := Lib.hid hM
  have HG := Lib.hid hG
  have HRV := Lib.hid hRV
  obtain ⟨op, v, rel, col, n, s, l⟩ := x
  rw [ExM.iff] at hx
  obtain ⟨-, q, c, rfl, -, -⟩ := hx
  obtain ⟨⟨cq, cc, rfl, hcc, hcm, -⟩, pq, pc, rfl, hpc, hpm, -⟩ := hM
  obtain ⟨len, hlen⟩ : ∃ len, len = l.length := ⟨_, rfl⟩
  rw [← hlen] at HX ⊢
  clear hlen hG hRV
  have E0 := EB.new w op v rel col n s q len c 26
  have B0 : Below w.heap.size w (w.alloc (.cells (exCells op v rel col n s q len c).toArray 26)) := ext_alloc (ext_refl _) _
  obtain ⟨W, hW⟩ : ∃ W, W = w.alloc (.cells (exCells op v rel col n s q len c).toArray 26) := ⟨_, rfl⟩
  rw [← hW] at E0 B0
  go_enter Tryd.func5, Tryd.ntmps5
  go_upto_region 1 with fail
  rw [← hW]
  clear hW
  obtain ⟨g, hg⟩ : ∃ g, g = w.heap.size := ⟨_, rfl⟩
  have HB := Lib.hid B0
  have HGW := Lib.hid hg
  rw [← hg] at E0
  rw [← hg]
  clear B0 hg
  have HE := Lib.hid E0
  obtain ⟨lt, c0, c1, c2, c3, c4, c5, c6, c7, c8⟩ := E0
  go_wp2_with fail
  refine (examples_any W (HG.out.on HB.out)).mono ?_
  rintro e M ⟨rfl, hb⟩
  have HBM := Lib.hid (HB.out.trans (hb.mono HB.out.size))
  have HEM := Lib.hid (HE.out.on hb)
  clear hb lt c0 c1 c2 c3 c4 c5 c6 c7 c8 HB HE
  obtain ⟨lt, c0, c1, c2, c3, c4, c5, c6, c7, c8⟩ := HEM.out
  go_wp2_with fail
  refine (deval_any _ _ M _ _ cols ps (ExM.ext HBM.out _ _ HX.out) (HM.out.on HBM.out) HRV.out (HG.out.on HBM.out)).mono ?_
  rintro e X ⟨he, hbX⟩
  obtain ⟨z2, hz2⟩ : ∃ z, z = evalR cols ps (.mk op v rel col n s l) := ⟨_, rfl⟩
  have HZ2 := Lib.hid hz2
  rw [← hz2] at he
  clear hz2
  obtain ⟨⟨rk, rn, rs⟩, re⟩ := z2
  simp only at he
  subst he
  have TX := TV.new_ X rk rn rs
  obtain ⟨X2, hX2⟩ : ∃ X2, X2 = X.alloc (.cells #[.int .i64 rk, .int .i64 rn, .string rs] 23) := ⟨_, rfl⟩
  rw [← hX2] at TX
  have hbX2 : Below M.heap.size M X2 := by rw [hX2]; exact ext_alloc hbX _
  have HBX := Lib.hid (HBM.out.trans (hbX2.mono HBM.out.size))
  have HEX := Lib.hid (HEM.out.on hbX2)
  have HTX := Lib.hid TX
  obtain ⟨gX, hgX⟩ : ∃ g, g = X.heap.size := ⟨_, rfl⟩
  rw [← hgX] at HTX
  have HX2 := Lib.hid hX2
  clear lt c0 c1 c2 c3 c4 c5 c6 c7 c8 TX hX2 hbX2 hbX
  go_upto_region 3 with fail
  rw [← HX2.out, ← hgX]
  clear HX2 hgX
  obtain ⟨lt, c0, c1, c2, c3, c4, c5, c6, c7, c8⟩ := HEX.out
  go_wp2_with fail
  refine (revalE_any _ _ X2 _ _ cols ps (ExM.ext HBX.out _ _ HX.out) (HM.out.on HBX.out) HRV.out).mono ?_
  rintro e Z ⟨he, hbZ⟩
  rw [← HZ2.out] at he
  simp only at he
  subst he
  have HBZ := Lib.hid (HBX.out.trans (hbZ.mono HBX.out.size))
  have T1 := (HTX.out.on hbZ).on (ext_alloc (ext_refl Z) (.cells #[.int .i64 rk, .int .i64 rn, .string rs] 23))
  have T2 := TV.new_ Z rk rn rs
  have HBQ := Lib.hid (ext_alloc HBZ.out (.cells #[.int .i64 rk, .int .i64 rn, .string rs] 23))
  have heq : ∀ w, (binOp .eql 23 (.agg #[.int .i64 rk, .int .i64 rn, .string rs]) (.agg #[.int .i64 rk, .int .i64 rn, .string rs])).run Tryd.prog w = .ok (.bool true) w := fun w => (Tryd.eqlVal ⟨rk, rn, rs⟩ ⟨rk, rn, rs⟩ w).trans (by simp)
  obtain ⟨Q2, hQ2⟩ : ∃ X2, X2 = Z.alloc (.cells #[.int .i64 rk, .int .i64 rn, .string rs] 23) := ⟨_, rfl⟩
  rw [← hQ2] at T1 T2 HBQ
  obtain ⟨gZ, hgZ⟩ : ∃ g, g = Z.heap.size := ⟨_, rfl⟩
  rw [← hgZ] at T2
  have HQ2 := Lib.hid hQ2
  clear lt c0 c1 c2 c3 c4 c5 c6 c7 c8 hQ2 hbZ
  go_upto_region 4 with fail
  rw [← HQ2.out, ← hgZ]
  clear HQ2 hgZ
  obtain ⟨t1, d0, d1, d2, df⟩ := T1
  obtain ⟨t2, e0, e1, e2, ef⟩ := T2
  go_wp2_with fail
  refine bodyPost_ret (v := .bool true) (by simp [results, Tryd.results5, go_sem]) rfl ⟨rfl, HBQ.out⟩

end Go.Proofs.YthdnbcdcfaocmaaDoor
