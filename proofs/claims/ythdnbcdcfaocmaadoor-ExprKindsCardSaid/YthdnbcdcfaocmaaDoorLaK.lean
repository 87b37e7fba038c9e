/- ExprKinds: the walk. -/
import Derived.Test.YthdnbcdcfaocmaaDoorEgB
import Derived.Test.YthdnbcdcfaocmaaDoorExN
namespace Go.Proofs.YthdnbcdcfaocmaaDoor
open Go.RowKit
set_option maxRecDepth 100000

set_option maxHeartbeats 8000000 in
theorem exprKinds_walk (x : Ex) (cs : List Value) (w : World) (cv pv : Value) (cols : List (List Int)) (ps : List Int) (hx : ExM w x cs) (hM : KM w cv pv cols ps) (hG : GE w) :
    Calls Tryd.prog 4 #[.agg cs.toArray, cv, pv] w fun e w' => e = .returned (.bool true) ∧ Below w.heap.size w w' := by
  have HX := Lib.hid hx
  have HM := Lib.hid hM
  have HG := Lib.hid hG
  obtain ⟨op, v, rel, col, n, s, l⟩ := x
  rw [ExM.iff] at hx
  obtain ⟨-, q, c, rfl, -, -⟩ := hx
  obtain ⟨⟨cq, cc, rfl, hcc, hcm, -⟩, pq, pc, rfl, hpc, hpm, -⟩ := hM
  obtain ⟨len, hlen⟩ : ∃ len, len = l.length := ⟨_, rfl⟩
  rw [← hlen] at HX ⊢
  clear hlen hG
  have E0 := EB.new w op v rel col n s q len c 26
  have B0 : Below w.heap.size w (w.alloc (.cells (exCells op v rel col n s q len c).toArray 26)) := ext_alloc (ext_refl _) _
  obtain ⟨W, hW⟩ : ∃ W, W = w.alloc (.cells (exCells op v rel col n s q len c).toArray 26) := ⟨_, rfl⟩
  rw [← hW] at E0 B0
  go_enter Tryd.func4, Tryd.ntmps4
  go_upto_region 1 with fail
  rw [← hW]
  clear hW
  obtain ⟨g, hg⟩ : ∃ g, g = w.heap.size := ⟨_, rfl⟩
  have HB := Lib.hid B0
  have HGW := Lib.hid hg
  rw [← hg] at E0
  rw [← hg]
  clear B0 hg
  have HE := Lib.hid E0
  obtain ⟨lt, c0, c1, c2, c3, c4, c5, c6, c7, c8⟩ := E0
  go_wp2_with fail
  refine (examples_any W (HG.out.on HB.out)).mono ?_
  rintro e W2 ⟨rfl, hb⟩
  have HB2 := Lib.hid (HB.out.trans (hb.mono HB.out.size))
  have E2 := HE.out.on hb
  have HE2 := Lib.hid E2
  clear hb lt c0 c1 c2 c3 c4 c5 c6 c7 c8 HB HE
  obtain ⟨lt, c0, c1, c2, c3, c4, c5, c6, c7, c8⟩ := E2
  go_wp2_with fail
  refine (dkind_any _ _ W2 _ _ cols ps (ExM.ext HB2.out _ _ HX.out) (HM.out.on HB2.out) (HG.out.on HB2.out)).mono ?_
  rintro e W3 ⟨he, hb⟩
  have HB3 := Lib.hid (HB2.out.trans (hb.mono HB2.out.size))
  have E3 := HE2.out.on hb
  clear hb lt c0 c1 c2 c3 c4 c5 c6 c7 c8 HB2 HE2
  obtain ⟨lt, c0, c1, c2, c3, c4, c5, c6, c7, c8⟩ := E3
  obtain ⟨z, hz⟩ : ∃ z, z = kindR cols ps (.mk op v rel col n s l) := ⟨_, rfl⟩
  have HZ := Lib.hid hz
  rw [← hz] at he
  clear hz
  obtain ⟨zk, ze⟩ := z
  simp only at he
  subst he
  go_wp2_with fail
  refine (rkindE_any _ _ W3 _ _ cols ps (ExM.ext HB3.out _ _ HX.out) (HM.out.on HB3.out)).mono ?_
  rintro e W4 ⟨he, hb⟩
  have HB4 := Lib.hid (HB3.out.trans (hb.mono HB3.out.size))
  rw [← HZ.out] at he
  simp only at he
  subst he
  clear hb lt c0 c1 c2 c3 c4 c5 c6 c7 c8 HB3 HZ
  go_wp2_with fail
  refine bodyPost_ret (v := .bool true) (by simp [results, Tryd.results4, go_sem]) rfl ⟨rfl, HB4.out⟩

end Go.Proofs.YthdnbcdcfaocmaaDoor
