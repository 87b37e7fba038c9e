/- The reference: whether two expressions are right and the same (Same). -/
import Derived.Test.YthdnbcdcfaocmaaDoorExG
namespace Go.Proofs.YthdnbcdcfaocmaaDoor
open Go.RowKit
set_option maxRecDepth 100000

def sameB (x y : Ex) : Bool := rightE x && rightE y && sameE x y
set_option maxHeartbeats 8000000 in
theorem sameB_any (x y : Ex) (cs ds : List Value) (w : World) (h : ExM w x cs) (h' : ExM w y ds) : Calls Tryd.prog 20 #[.agg cs.toArray, .agg ds.toArray] w fun e w' => e = .returned (.bool (sameB x y)) ∧ Below w.heap.size w w' := by
  obtain ⟨opa, va, rela, cola, na, sa, la⟩ := x
  obtain ⟨opb, vb, relb, colb, nb, sb, lb⟩ := y
  have hx := h
  have hy := h'
  rw [ExM.iff] at h h'
  obtain ⟨-, qa, ca, rfl, -, -⟩ := h
  obtain ⟨-, qb, cb, rfl, -, -⟩ := h'
  have A0 := EB.new w opa va rela cola na sa qa la.length ca 26
  have B0 : Below w.heap.size w (w.alloc (.cells (exCells opa va rela cola na sa qa la.length ca).toArray 26)) := ext_alloc (ext_refl _) _
  obtain ⟨V, hV⟩ : ∃ V, V = w.alloc (.cells (exCells opa va rela cola na sa qa la.length ca).toArray 26) := ⟨_, rfl⟩
  rw [← hV] at A0 B0
  have A1 := EB.new V opb vb relb colb nb sb qb lb.length cb 26
  have B1 : Below V.heap.size V (V.alloc (.cells (exCells opb vb relb colb nb sb qb lb.length cb).toArray 26)) := ext_alloc (ext_refl _) _
  obtain ⟨W, hW⟩ : ∃ W, W = V.alloc (.cells (exCells opb vb relb colb nb sb qb lb.length cb).toArray 26) := ⟨_, rfl⟩
  rw [← hW] at A1 B1
  have A2 := A0.on B1
  have HXa := Lib.hid (ExM.ext B1 _ _ (ExM.ext B0 _ _ hx))
  have HXb := Lib.hid (ExM.ext B1 _ _ (ExM.ext B0 _ _ hy))
  have HB := Lib.hid (B0.trans (B1.mono B0.size))
  have hz : V.heap.size = w.heap.size + 1 := by rw [hV]; simp
  clear A0 B0 B1 hx hy
  go_enter Tryd.func20, Tryd.ntmps20
  go_upto_region 1 with fail
  rw [← hV, ← hW]
  rw [hz] at A1
  clear hV hW hz V
  obtain ⟨g, hg⟩ : ∃ g, g = w.heap.size := ⟨_, rfl⟩
  rw [← hg] at A1 A2
  rw [← hg]
  clear hg
  have HA := Lib.hid A2
  have HC := Lib.hid A1
  obtain ⟨lt, c0, c1, c2, c3, c4, c5, c6, c7, c8⟩ := A2
  obtain ⟨lt', d0, d1, d2, d3, d4, d5, d6, d7, d8⟩ := A1
  go_wp2_with fail
  refine (rightE_any _ _ _ HXa.out).mono ?_
  rintro e Y ⟨he, hbY⟩
  have HBY := Lib.hid (HB.out.trans (hbY.mono HB.out.size))
  have EA := HA.out.on hbY
  have EC := HC.out.on hbY
  have HAY := Lib.hid EA
  have HCY := Lib.hid EC
  have HXaY := Lib.hid (ExM.ext hbY _ _ HXa.out)
  have HXbY := Lib.hid (ExM.ext hbY _ _ HXb.out)
  clear hbY
  clear lt c0 c1 c2 c3 c4 c5 c6 c7 c8 lt' d0 d1 d2 d3 d4 d5 d6 d7 d8
  obtain ⟨lt, c0, c1, c2, c3, c4, c5, c6, c7, c8⟩ := EA
  obtain ⟨lt', d0, d1, d2, d3, d4, d5, d6, d7, d8⟩ := EC
  obtain ⟨r1, hr1⟩ : ∃ r, r = rightE (Ex.mk opa va rela cola na sa la) := ⟨_, rfl⟩
  rw [← hr1] at he
  have HR1 := Lib.hid hr1
  clear hr1
  subst he
  go_wp2_with fail
  refine (rightE_any _ _ _ HXbY.out).mono ?_
  rintro e Z ⟨he, hbZ⟩
  have HBZ := Lib.hid (HBY.out.trans (hbZ.mono HBY.out.size))
  have EA := HAY.out.on hbZ
  have EC := HCY.out.on hbZ
  have HAZ := Lib.hid EA
  have HCZ := Lib.hid EC
  have HXaZ := Lib.hid (ExM.ext hbZ _ _ HXaY.out)
  have HXbZ := Lib.hid (ExM.ext hbZ _ _ HXbY.out)
  clear hbZ
  clear lt c0 c1 c2 c3 c4 c5 c6 c7 c8 lt' d0 d1 d2 d3 d4 d5 d6 d7 d8
  obtain ⟨lt, c0, c1, c2, c3, c4, c5, c6, c7, c8⟩ := EA
  obtain ⟨lt', d0, d1, d2, d3, d4, d5, d6, d7, d8⟩ := EC
  obtain ⟨r2, hr2⟩ : ∃ r, r = rightE (Ex.mk opb vb relb colb nb sb lb) := ⟨_, rfl⟩
  rw [← hr2] at he
  have HR2 := Lib.hid hr2
  clear hr2
  subst he
  cases r1 with
  | false =>
    have HQ := Lib.hid (show sameB (Ex.mk opa va rela cola na sa la) (Ex.mk opb vb relb colb nb sb lb) = false by rw [sameB, ← HR1.out]; rfl)
    go_wp2_with fail
    refine bodyPost_ret (v := .bool false) (by simp [results, Tryd.results20, go_sem]) rfl ⟨by rw [HQ.out], HBZ.out⟩
  | true =>
    cases r2 with
    | false =>
      have HQ := Lib.hid (show sameB (Ex.mk opa va rela cola na sa la) (Ex.mk opb vb relb colb nb sb lb) = false by rw [sameB, ← HR1.out, ← HR2.out]; rfl)
      go_wp2_with fail
      refine bodyPost_ret (v := .bool false) (by simp [results, Tryd.results20, go_sem]) rfl ⟨by rw [HQ.out], HBZ.out⟩
    | true =>
      have HQ := Lib.hid (show sameB (Ex.mk opa va rela cola na sa la) (Ex.mk opb vb relb colb nb sb lb) = sameE (Ex.mk opa va rela cola na sa la) (Ex.mk opb vb relb colb nb sb lb) by rw [sameB, ← HR1.out, ← HR2.out]; rfl)
      go_wp2_with fail
      refine (rsame_any _ _ _ (Nat.le_refl _) (rightE_parts HR1.out.symm).1 (rightE_parts HR2.out.symm).1 _ _ _ HXaZ.out HXbZ.out).mono ?_
      rintro e U ⟨he, hbU⟩
      have HBU := Lib.hid (HBZ.out.trans (hbU.mono HBZ.out.size))
      obtain ⟨r3, hr3⟩ : ∃ r, r = sameE (Ex.mk opa va rela cola na sa la) (Ex.mk opb vb relb colb nb sb lb) := ⟨_, rfl⟩
      rw [← hr3] at he
      have HR3 := Lib.hid hr3
      clear hr3 hbU
      clear lt c0 c1 c2 c3 c4 c5 c6 c7 c8 lt' d0 d1 d2 d3 d4 d5 d6 d7 d8
      subst he
      go_wp2_with fail
      refine bodyPost_ret (v := .bool r3) (by simp [results, Tryd.results20, go_sem]) rfl ⟨by rw [HQ.out, HR3.out], HBU.out⟩

end Go.Proofs.YthdnbcdcfaocmaaDoor
