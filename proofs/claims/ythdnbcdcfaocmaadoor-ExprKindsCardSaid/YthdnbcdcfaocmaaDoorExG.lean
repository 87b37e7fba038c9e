/- The reference: two expressions, part by part (same): where the heads are the same; Same. -/
import Derived.Test.YthdnbcdcfaocmaaDoorExF
import Derived.StillTailTactics
namespace Go.Proofs.YthdnbcdcfaocmaaDoor
open Go.RowKit
set_option maxRecDepth 100000

theorem same_in {op : Int} {va vb : Val} {rel col n : Int} {sa sb : ByteArray} {l m : List Ex} (hv : (va.k == vb.k && va.n == vb.n && va.s.toList == vb.s.toList) = true) : sameE (.mk op va rel col n sa l) (.mk op vb rel col n sb m) = sameL l m := by
  rw [sameE, hv]
  simp

set_option maxHeartbeats 8000000 in
theorem rsame_zero (op : Int) (va : Val) (rel col n : Int) (sa : ByteArray) (qa : Option Addr) (ca : Nat) (vb : Val) (sb : ByteArray) (qb : Option Addr) (cb : Nat) (w : World) (hv : (va.k == vb.k && va.n == vb.n && va.s.toList == vb.s.toList) = true) :
    Calls Tryd.prog 48 #[.agg (exCells op va rel col n sa qa ([] : List Ex).length ca).toArray, .agg (exCells op vb rel col n sb qb ([] : List Ex).length cb).toArray] w fun e w' => e = .returned (.bool (sameE (.mk op va rel col n sa []) (.mk op vb rel col n sb []))) ∧ Below w.heap.size w w' := by
  have HS := Lib.hid (same_in (op := op) (rel := rel) (col := col) (n := n) (sa := sa) (sb := sb) (l := []) (m := []) hv)
  simp only [List.length_nil]
  have A0 := EB.new w op va rel col n sa qa 0 ca 26
  have B0 : Below w.heap.size w (w.alloc (.cells (exCells op va rel col n sa qa 0 ca).toArray 26)) := ext_alloc (ext_refl _) _
  obtain ⟨V, hV⟩ : ∃ V, V = w.alloc (.cells (exCells op va rel col n sa qa 0 ca).toArray 26) := ⟨_, rfl⟩
  rw [← hV] at A0 B0
  have A1 := EB.new V op vb rel col n sb qb 0 cb 26
  have B1 : Below V.heap.size V (V.alloc (.cells (exCells op vb rel col n sb qb 0 cb).toArray 26)) := ext_alloc (ext_refl _) _
  obtain ⟨W, hW⟩ : ∃ W, W = V.alloc (.cells (exCells op vb rel col n sb qb 0 cb).toArray 26) := ⟨_, rfl⟩
  rw [← hW] at A1 B1
  have A2 := A0.on B1
  have HB := Lib.hid (B0.trans (B1.mono B0.size))
  have hz : V.heap.size = w.heap.size + 1 := by rw [hV]; simp
  have hn := Tryd.neqVal5 va vb
  rw [hv] at hn
  clear A0 B0 B1 hv
  go_enter Tryd.func48, Tryd.ntmps48
  go_upto_region 1 with fail
  rw [← hV, ← hW]
  rw [hz] at A1
  clear hV hW hz V
  obtain ⟨g, hg⟩ : ∃ g, g = w.heap.size := ⟨_, rfl⟩
  rw [← hg] at A1 A2
  rw [← hg]
  clear hg
  have HA := Lib.hid A2
  have HC := Lib.hid A1
  obtain ⟨lt, c0, c1, c2, c3, c4, c5, c6, c7, c8⟩ := A2
  obtain ⟨lt', d0, d1, d2, d3, d4, d5, d6, d7, d8⟩ := A1
  go_wp2_with fail
  refine wp_loop_rounds 1 ?_
  rw [rounds_succ]
  go_wp2_with fail
  refine bodyPost_ret (v := .bool true) (by simp [results, Tryd.results48, go_sem]) rfl ⟨by rw [HS.out, sameL], HB.out⟩

set_option maxHeartbeats 8000000 in
theorem rsame_one (op : Int) (va : Val) (rel col n : Int) (sa : ByteArray) (qa : Option Addr) (ca : Nat) (vb : Val) (sb : ByteArray) (qb : Option Addr) (cb : Nat) (x0 y0 : Ex) (w : World) (hv : (va.k == vb.k && va.n == vb.n && va.s.toList == vb.s.toList) = true) (hl : ExL w qa 0 [x0]) (hm : ExL w qb 0 [y0]) (IH0 : ∀ (cs ds : List Value) (w : World), ExM w x0 cs → ExM w y0 ds → Calls Tryd.prog 48 #[.agg cs.toArray, .agg ds.toArray] w fun e w' => e = .returned (.bool (sameE x0 y0)) ∧ Below w.heap.size w w') :
    Calls Tryd.prog 48 #[.agg (exCells op va rel col n sa qa ([x0] : List Ex).length ca).toArray, .agg (exCells op vb rel col n sb qb ([y0] : List Ex).length cb).toArray] w fun e w' => e = .returned (.bool (sameE (.mk op va rel col n sa [x0]) (.mk op vb rel col n sb [y0]))) ∧ Below w.heap.size w w' := by
  have HS := Lib.hid (same_in (op := op) (rel := rel) (col := col) (n := n) (sa := sa) (sb := sb) (l := [x0]) (m := [y0]) hv)
  have HL := Lib.hid hl
  have HM := Lib.hid hm
  clear hl hm
  have HI0 := Lib.hid IH0
  clear IH0
  simp only [List.length_cons, List.length_nil, Nat.zero_add]
  have A0 := EB.new w op va rel col n sa qa 1 ca 26
  have B0 : Below w.heap.size w (w.alloc (.cells (exCells op va rel col n sa qa 1 ca).toArray 26)) := ext_alloc (ext_refl _) _
  obtain ⟨V, hV⟩ : ∃ V, V = w.alloc (.cells (exCells op va rel col n sa qa 1 ca).toArray 26) := ⟨_, rfl⟩
  rw [← hV] at A0 B0
  have A1 := EB.new V op vb rel col n sb qb 1 cb 26
  have B1 : Below V.heap.size V (V.alloc (.cells (exCells op vb rel col n sb qb 1 cb).toArray 26)) := ext_alloc (ext_refl _) _
  obtain ⟨W, hW⟩ : ∃ W, W = V.alloc (.cells (exCells op vb rel col n sb qb 1 cb).toArray 26) := ⟨_, rfl⟩
  rw [← hW] at A1 B1
  have A2 := A0.on B1
  have HB := Lib.hid (B0.trans (B1.mono B0.size))
  have hz : V.heap.size = w.heap.size + 1 := by rw [hV]; simp
  have hn := Tryd.neqVal5 va vb
  rw [hv] at hn
  clear A0 B0 B1 hv
  go_enter Tryd.func48, Tryd.ntmps48
  go_upto_region 1 with fail
  rw [← hV, ← hW]
  rw [hz] at A1
  clear hV hW hz V
  obtain ⟨g, hg⟩ : ∃ g, g = w.heap.size := ⟨_, rfl⟩
  rw [← hg] at A1 A2
  rw [← hg]
  clear hg
  have HA := Lib.hid A2
  have HC := Lib.hid A1
  obtain ⟨lt, c0, c1, c2, c3, c4, c5, c6, c7, c8⟩ := A2
  obtain ⟨lt', d0, d1, d2, d3, d4, d5, d6, d7, d8⟩ := A1
  have hl := ExL.ext HB.out _ _ _ HL.out
  have hm := ExL.ext HB.out _ _ _ HM.out
  have hl_ := ExL.at_ (j := 0) (x := x0) hl rfl
  obtain ⟨ga0, offa0, csa0, hq, hga0, hxa0, hcell⟩ := hl_
  subst hq
  have HXa0 := Lib.hid hxa0
  obtain ⟨opa1x, va1x, rela1x, cola1x, na1x, sa1x, la1x⟩ := x0
  rw [ExM.iff] at hxa0
  obtain ⟨-, qqa0, cca0, rfl, -, -⟩ := hxa0
  have f0 := hcell 0 _ rfl
  have f1 := hcell 1 _ rfl
  have f2 := hcell 2 _ rfl
  have f3 := hcell 3 _ rfl
  have f4 := hcell 4 _ rfl
  have f5 := hcell 5 _ rfl
  have f6 := hcell 6 _ rfl
  have f7 := hcell 7 _ rfl
  have f8 := hcell 8 _ rfl
  simp only [Nat.zero_mul, Nat.add_zero] at f0 f1 f2 f3 f4 f5 f6 f7 f8
  clear hcell
  have hl_ := ExL.at_ (j := 0) (x := y0) hm rfl
  obtain ⟨gb0, offb0, csb0, hq, hgb0, hxb0, hcell⟩ := hl_
  subst hq
  have HXb0 := Lib.hid hxb0
  obtain ⟨opb1x, vb1x, relb1x, colb1x, nb1x, sb1x, lb1x⟩ := y0
  rw [ExM.iff] at hxb0
  obtain ⟨-, qqb0, ccb0, rfl, -, -⟩ := hxb0
  have e0 := hcell 0 _ rfl
  have e1 := hcell 1 _ rfl
  have e2 := hcell 2 _ rfl
  have e3 := hcell 3 _ rfl
  have e4 := hcell 4 _ rfl
  have e5 := hcell 5 _ rfl
  have e6 := hcell 6 _ rfl
  have e7 := hcell 7 _ rfl
  have e8 := hcell 8 _ rfl
  simp only [Nat.zero_mul, Nat.add_zero] at e0 e1 e2 e3 e4 e5 e6 e7 e8
  clear hcell
  clear hl hm
  go_wp2_with fail
  refine wp_loop_rounds 2 ?_
  rw [rounds_succ]
  go_wp2_with fail
  go_still_tail 10, (by kernel_rfl)
  change wpList _ _ _ _ _ W.drew
  have hd0 : Below W.heap.size W W.drew := (Below.refl _ _).drew
  have Ha := ExM.ext hd0 _ _ HXa0.out
  have Hb := ExM.ext hd0 _ _ HXb0.out
  have EA := HA.out.on hd0
  have EC := HC.out.on hd0
  have BD := HB.out.trans (hd0.mono HB.out.size)
  clear hd0 f0 f1 f2 f3 f4 f5 f6 f7 f8 e0 e1 e2 e3 e4 e5 e6 e7 e8
  clear lt c0 c1 c2 c3 c4 c5 c6 c7 c8 lt' d0 d1 d2 d3 d4 d5 d6 d7 d8
  generalize W.drew = U at Ha Hb EA EC BD ⊢
  have HBD0 := Lib.hid BD
  have HEA0 := Lib.hid EA
  have HEC0 := Lib.hid EC
  clear BD EA EC
  go_wp2_with fail
  refine (HI0.out _ _ _ Ha Hb).mono ?_
  clear Ha Hb
  rintro e Y ⟨he, hbY⟩
  have HBY := Lib.hid (HBD0.out.trans (hbY.mono HBD0.out.size))
  have EA := HEA0.out.on hbY
  have EC := HEC0.out.on hbY
  clear hbY
  have HAY := Lib.hid EA
  have HCY := Lib.hid EC
  obtain ⟨lt, c0, c1, c2, c3, c4, c5, c6, c7, c8⟩ := EA
  obtain ⟨lt', d0, d1, d2, d3, d4, d5, d6, d7, d8⟩ := EC
  cases hs : sameE (.mk opa1x va1x rela1x cola1x na1x sa1x la1x) (.mk opb1x vb1x relb1x colb1x nb1x sb1x lb1x) with
  | false =>
    have HQ0 := Lib.hid hs
    rw [hs] at he
    clear hs
    subst he
    go_wp2_with fail
    refine bodyPost_ret (v := .bool false) (by simp [results, Tryd.results48, go_sem]) rfl ⟨by rw [HS.out, sameL, HQ0.out, Bool.false_and], HBY.out⟩
  | true =>
    have HQ0 := Lib.hid hs
    rw [hs] at he
    clear hs
    subst he
    go_wp2_with fail
    rw [rounds_succ]
    go_wp2_with fail
    refine bodyPost_ret (v := .bool true) (by simp [results, Tryd.results48, go_sem]) rfl ⟨by rw [HS.out, sameL, sameL, HQ0.out, Bool.true_and], HBY.out⟩

set_option maxHeartbeats 8000000 in
theorem rsame_two (op : Int) (va : Val) (rel col n : Int) (sa : ByteArray) (qa : Option Addr) (ca : Nat) (vb : Val) (sb : ByteArray) (qb : Option Addr) (cb : Nat) (x0 y0 : Ex) (x1 y1 : Ex) (w : World) (hv : (va.k == vb.k && va.n == vb.n && va.s.toList == vb.s.toList) = true) (hl : ExL w qa 0 [x0, x1]) (hm : ExL w qb 0 [y0, y1]) (IH0 : ∀ (cs ds : List Value) (w : World), ExM w x0 cs → ExM w y0 ds → Calls Tryd.prog 48 #[.agg cs.toArray, .agg ds.toArray] w fun e w' => e = .returned (.bool (sameE x0 y0)) ∧ Below w.heap.size w w') (IH1 : ∀ (cs ds : List Value) (w : World), ExM w x1 cs → ExM w y1 ds → Calls Tryd.prog 48 #[.agg cs.toArray, .agg ds.toArray] w fun e w' => e = .returned (.bool (sameE x1 y1)) ∧ Below w.heap.size w w') :
    Calls Tryd.prog 48 #[.agg (exCells op va rel col n sa qa ([x0, x1] : List Ex).length ca).toArray, .agg (exCells op vb rel col n sb qb ([y0, y1] : List Ex).length cb).toArray] w fun e w' => e = .returned (.bool (sameE (.mk op va rel col n sa [x0, x1]) (.mk op vb rel col n sb [y0, y1]))) ∧ Below w.heap.size w w' := by
  have HS := Lib.hid (same_in (op := op) (rel := rel) (col := col) (n := n) (sa := sa) (sb := sb) (l := [x0, x1]) (m := [y0, y1]) hv)
  have HL := Lib.hid hl
  have HM := Lib.hid hm
  clear hl hm
  have HI0 := Lib.hid IH0
  clear IH0
  have HI1 := Lib.hid IH1
  clear IH1
  simp only [List.length_cons, List.length_nil, Nat.zero_add]
  have A0 := EB.new w op va rel col n sa qa 2 ca 26
  have B0 : Below w.heap.size w (w.alloc (.cells (exCells op va rel col n sa qa 2 ca).toArray 26)) := ext_alloc (ext_refl _) _
  obtain ⟨V, hV⟩ : ∃ V, V = w.alloc (.cells (exCells op va rel col n sa qa 2 ca).toArray 26) := ⟨_, rfl⟩
  rw [← hV] at A0 B0
  have A1 := EB.new V op vb rel col n sb qb 2 cb 26
  have B1 : Below V.heap.size V (V.alloc (.cells (exCells op vb rel col n sb qb 2 cb).toArray 26)) := ext_alloc (ext_refl _) _
  obtain ⟨W, hW⟩ : ∃ W, W = V.alloc (.cells (exCells op vb rel col n sb qb 2 cb).toArray 26) := ⟨_, rfl⟩
  rw [← hW] at A1 B1
  have A2 := A0.on B1
  have HB := Lib.hid (B0.trans (B1.mono B0.size))
  have hz : V.heap.size = w.heap.size + 1 := by rw [hV]; simp
  have hn := Tryd.neqVal5 va vb
  rw [hv] at hn
  clear A0 B0 B1 hv
  go_enter Tryd.func48, Tryd.ntmps48
  go_upto_region 1 with fail
  rw [← hV, ← hW]
  rw [hz] at A1
  clear hV hW hz V
  obtain ⟨g, hg⟩ : ∃ g, g = w.heap.size := ⟨_, rfl⟩
  rw [← hg] at A1 A2
  rw [← hg]
  clear hg
  have HA := Lib.hid A2
  have HC := Lib.hid A1
  obtain ⟨lt, c0, c1, c2, c3, c4, c5, c6, c7, c8⟩ := A2
  obtain ⟨lt', d0, d1, d2, d3, d4, d5, d6, d7, d8⟩ := A1
  have hl := ExL.ext HB.out _ _ _ HL.out
  have hm := ExL.ext HB.out _ _ _ HM.out
  have HLW := Lib.hid hl
  have HMW := Lib.hid hm
  have hl_ := ExL.at_ (j := 0) (x := x0) hl rfl
  obtain ⟨ga0, offa0, csa0, hq, hga0, hxa0, hcell⟩ := hl_
  subst hq
  have HXa0 := Lib.hid hxa0
  obtain ⟨opa1x, va1x, rela1x, cola1x, na1x, sa1x, la1x⟩ := x0
  rw [ExM.iff] at hxa0
  obtain ⟨-, qqa0, cca0, rfl, -, -⟩ := hxa0
  have f0 := hcell 0 _ rfl
  have f1 := hcell 1 _ rfl
  have f2 := hcell 2 _ rfl
  have f3 := hcell 3 _ rfl
  have f4 := hcell 4 _ rfl
  have f5 := hcell 5 _ rfl
  have f6 := hcell 6 _ rfl
  have f7 := hcell 7 _ rfl
  have f8 := hcell 8 _ rfl
  simp only [Nat.zero_mul, Nat.add_zero] at f0 f1 f2 f3 f4 f5 f6 f7 f8
  clear hcell
  have hl_ := ExL.at_ (j := 0) (x := y0) hm rfl
  obtain ⟨gb0, offb0, csb0, hq, hgb0, hxb0, hcell⟩ := hl_
  subst hq
  have HXb0 := Lib.hid hxb0
  obtain ⟨opb1x, vb1x, relb1x, colb1x, nb1x, sb1x, lb1x⟩ := y0
  rw [ExM.iff] at hxb0
  obtain ⟨-, qqb0, ccb0, rfl, -, -⟩ := hxb0
  have e0 := hcell 0 _ rfl
  have e1 := hcell 1 _ rfl
  have e2 := hcell 2 _ rfl
  have e3 := hcell 3 _ rfl
  have e4 := hcell 4 _ rfl
  have e5 := hcell 5 _ rfl
  have e6 := hcell 6 _ rfl
  have e7 := hcell 7 _ rfl
  have e8 := hcell 8 _ rfl
  simp only [Nat.zero_mul, Nat.add_zero] at e0 e1 e2 e3 e4 e5 e6 e7 e8
  clear hcell
  clear hl hm
  go_wp2_with fail
  refine wp_loop_rounds 3 ?_
  rw [rounds_succ]
  go_wp2_with fail
  go_still_tail 10, (by kernel_rfl)
  change wpList _ _ _ _ _ W.drew
  have hd0 : Below W.heap.size W W.drew := (Below.refl _ _).drew
  have Ha := ExM.ext hd0 _ _ HXa0.out
  have Hb := ExM.ext hd0 _ _ HXb0.out
  have EA := HA.out.on hd0
  have EC := HC.out.on hd0
  have KL := ExL.ext hd0 _ _ _ HLW.out
  have KM := ExL.ext hd0 _ _ _ HMW.out
  have BD := HB.out.trans (hd0.mono HB.out.size)
  clear hd0 f0 f1 f2 f3 f4 f5 f6 f7 f8 e0 e1 e2 e3 e4 e5 e6 e7 e8
  clear lt c0 c1 c2 c3 c4 c5 c6 c7 c8 lt' d0 d1 d2 d3 d4 d5 d6 d7 d8
  generalize W.drew = U at Ha Hb EA EC BD KL KM ⊢
  have HBD0 := Lib.hid BD
  have HEA0 := Lib.hid EA
  have HEC0 := Lib.hid EC
  have HKL := Lib.hid KL
  have HKM := Lib.hid KM
  clear KL KM
  clear BD EA EC
  go_wp2_with fail
  refine (HI0.out _ _ _ Ha Hb).mono ?_
  clear Ha Hb
  rintro e Y ⟨he, hbY⟩
  have HBY := Lib.hid (HBD0.out.trans (hbY.mono HBD0.out.size))
  have EA := HEA0.out.on hbY
  have EC := HEC0.out.on hbY
  have HLY := Lib.hid (ExL.ext hbY _ _ _ HKL.out)
  have HMY := Lib.hid (ExL.ext hbY _ _ _ HKM.out)
  clear hbY
  have HAY := Lib.hid EA
  have HCY := Lib.hid EC
  obtain ⟨lt, c0, c1, c2, c3, c4, c5, c6, c7, c8⟩ := EA
  obtain ⟨lt', d0, d1, d2, d3, d4, d5, d6, d7, d8⟩ := EC
  cases hs : sameE (.mk opa1x va1x rela1x cola1x na1x sa1x la1x) (.mk opb1x vb1x relb1x colb1x nb1x sb1x lb1x) with
  | false =>
    have HQ0 := Lib.hid hs
    rw [hs] at he
    clear hs
    subst he
    go_wp2_with fail
    refine bodyPost_ret (v := .bool false) (by simp [results, Tryd.results48, go_sem]) rfl ⟨by rw [HS.out, sameL, HQ0.out, Bool.false_and], HBY.out⟩
  | true =>
    have HQ0 := Lib.hid hs
    rw [hs] at he
    clear hs
    subst he
    go_wp2_with fail
    have hl_ := ExL.at_ (j := 1) (x := x1) HLY.out rfl
    obtain ⟨ga1, offa1, csa1, hq, hga1, hxa1, hcell⟩ := hl_
    obtain ⟨rfl, rfl⟩ : ga1 = ga0 ∧ offa1 = offa0 := by cases hq; exact ⟨rfl, rfl⟩
    clear hq
    have HXa1 := Lib.hid hxa1
    obtain ⟨opa2x, va2x, rela2x, cola2x, na2x, sa2x, la2x⟩ := x1
    rw [ExM.iff] at hxa1
    obtain ⟨-, qqa1, cca1, rfl, -, -⟩ := hxa1
    have f0 := hcell 0 _ rfl
    have f1 := hcell 1 _ rfl
    have f2 := hcell 2 _ rfl
    have f3 := hcell 3 _ rfl
    have f4 := hcell 4 _ rfl
    have f5 := hcell 5 _ rfl
    have f6 := hcell 6 _ rfl
    have f7 := hcell 7 _ rfl
    have f8 := hcell 8 _ rfl
    clear hcell
    have hl_ := ExL.at_ (j := 1) (x := y1) HMY.out rfl
    obtain ⟨gb1, offb1, csb1, hq, hgb1, hxb1, hcell⟩ := hl_
    obtain ⟨rfl, rfl⟩ : gb1 = gb0 ∧ offb1 = offb0 := by cases hq; exact ⟨rfl, rfl⟩
    clear hq
    have HXb1 := Lib.hid hxb1
    obtain ⟨opb2x, vb2x, relb2x, colb2x, nb2x, sb2x, lb2x⟩ := y1
    rw [ExM.iff] at hxb1
    obtain ⟨-, qqb1, ccb1, rfl, -, -⟩ := hxb1
    have e0 := hcell 0 _ rfl
    have e1 := hcell 1 _ rfl
    have e2 := hcell 2 _ rfl
    have e3 := hcell 3 _ rfl
    have e4 := hcell 4 _ rfl
    have e5 := hcell 5 _ rfl
    have e6 := hcell 6 _ rfl
    have e7 := hcell 7 _ rfl
    have e8 := hcell 8 _ rfl
    clear hcell
    rw [rounds_succ]
    go_wp2_with fail
    go_still_tail 10, (by kernel_rfl)
    change wpList _ _ _ _ _ Y.drew
    have hd1 : Below Y.heap.size Y Y.drew := (Below.refl _ _).drew
    have Ha := ExM.ext hd1 _ _ HXa1.out
    have Hb := ExM.ext hd1 _ _ HXb1.out
    have EA := HAY.out.on hd1
    have EC := HCY.out.on hd1
    have BD := HBY.out.trans (hd1.mono HBY.out.size)
    clear hd1 f0 f1 f2 f3 f4 f5 f6 f7 f8 e0 e1 e2 e3 e4 e5 e6 e7 e8
    clear lt c0 c1 c2 c3 c4 c5 c6 c7 c8 lt' d0 d1 d2 d3 d4 d5 d6 d7 d8
    generalize Y.drew = U at Ha Hb EA EC BD ⊢
    have HBD1 := Lib.hid BD
    have HEA1 := Lib.hid EA
    have HEC1 := Lib.hid EC
    clear BD EA EC
    go_wp2_with fail
    refine (HI1.out _ _ _ Ha Hb).mono ?_
    clear Ha Hb
    rintro e Z ⟨he, hbZ⟩
    have HBZ := Lib.hid (HBD1.out.trans (hbZ.mono HBD1.out.size))
    have EA := HEA1.out.on hbZ
    have EC := HEC1.out.on hbZ
    clear hbZ
    have HAZ := Lib.hid EA
    have HCZ := Lib.hid EC
    obtain ⟨lt, c0, c1, c2, c3, c4, c5, c6, c7, c8⟩ := EA
    obtain ⟨lt', d0, d1, d2, d3, d4, d5, d6, d7, d8⟩ := EC
    cases hs : sameE (.mk opa2x va2x rela2x cola2x na2x sa2x la2x) (.mk opb2x vb2x relb2x colb2x nb2x sb2x lb2x) with
    | false =>
      have HQ1 := Lib.hid hs
      rw [hs] at he
      clear hs
      subst he
      go_wp2_with fail
      refine bodyPost_ret (v := .bool false) (by simp [results, Tryd.results48, go_sem]) rfl ⟨by rw [HS.out, sameL, sameL, HQ0.out, HQ1.out, Bool.false_and, Bool.true_and], HBZ.out⟩
    | true =>
      have HQ1 := Lib.hid hs
      rw [hs] at he
      clear hs
      subst he
      go_wp2_with fail
      rw [rounds_succ]
      go_wp2_with fail
      refine bodyPost_ret (v := .bool true) (by simp [results, Tryd.results48, go_sem]) rfl ⟨by rw [HS.out, sameL, sameL, sameL, HQ0.out, HQ1.out, Bool.true_and, Bool.true_and], HBZ.out⟩

theorem sameL_len : ∀ (l m : List Ex), l.length ≠ m.length → sameL l m = false
  | [], [], h => absurd rfl h
  | [], _ :: _, _ => by rw [sameL] <;> simp
  | _ :: _, [], _ => by rw [sameL] <;> simp
  | x :: l, y :: m, h => by rw [sameL, sameL_len l m (by simpa using h), Bool.and_false]
theorem same_out {opa : Int} {va : Val} {rela cola na : Int} {sa : ByteArray} {l : List Ex} {opb : Int} {vb : Val} {relb colb nb : Int} {sb : ByteArray} {m : List Ex}
    (hne : opa ≠ opb ∨ (va.k == vb.k && va.n == vb.n && va.s.toList == vb.s.toList) = false ∨ rela ≠ relb ∨ cola ≠ colb ∨ na ≠ nb ∨ l.length ≠ m.length) : sameE (.mk opa va rela cola na sa l) (.mk opb vb relb colb nb sb m) = false := by
  rw [sameE]
  rcases hne with h | h | h | h | h | h
  · rw [beq_eq_false_iff_ne.mpr h]; simp
  · rw [h]; simp
  · rw [beq_eq_false_iff_ne.mpr h]; simp
  · rw [beq_eq_false_iff_ne.mpr h]; simp
  · rw [beq_eq_false_iff_ne.mpr h]; simp
  · rw [sameL_len l m h, Bool.and_false]
theorem rsame_any : ∀ (k : Nat) (x y : Ex), x.deep ≤ k → x.okAll = true → y.okAll = true → ∀ (cs ds : List Value) (w : World), ExM w x cs → ExM w y ds → Calls Tryd.prog 48 #[.agg cs.toArray, .agg ds.toArray] w fun e w' => e = .returned (.bool (sameE x y)) ∧ Below w.heap.size w w'
  | 0, x, _, h, _, _, _, _, _, _, _ => absurd h (by have := deep_pos x; omega)
  | k + 1, .mk opa va rela cola na sa l, .mk opb vb relb colb nb sb m, hd, hok, hok', cs, ds, w, h, h' => by
    rw [ExM.iff] at h h'
    obtain ⟨-, qa, ca, rfl, -, hl⟩ := h
    obtain ⟨-, qb, cb, rfl, -, hm⟩ := h'
    rw [Ex.okAll, Bool.and_eq_true] at hok hok'
    rw [Ex.deep] at hd
    by_cases hne : opa ≠ opb ∨ (va.k == vb.k && va.n == vb.n && va.s.toList == vb.s.toList) = false ∨ rela ≠ relb ∨ cola ≠ colb ∨ na ≠ nb ∨ l.length ≠ m.length
    · rw [same_out hne]
      exact rsame_head opa va rela cola na sa qa l.length ca opb vb relb colb nb sb qb m.length cb w hne
    · have h1 : opa = opb := Classical.byContradiction fun h => hne (.inl h)
      have h2 : (va.k == vb.k && va.n == vb.n && va.s.toList == vb.s.toList) = true := by
        cases e : (va.k == vb.k && va.n == vb.n && va.s.toList == vb.s.toList) with
        | true => rfl
        | false => exact absurd (.inr (.inl e)) hne
      have h3 : rela = relb := Classical.byContradiction fun h => hne (.inr (.inr (.inl h)))
      have h4 : cola = colb := Classical.byContradiction fun h => hne (.inr (.inr (.inr (.inl h))))
      have h5 : na = nb := Classical.byContradiction fun h => hne (.inr (.inr (.inr (.inr (.inl h)))))
      have h6 : l.length = m.length := Classical.byContradiction fun h => hne (.inr (.inr (.inr (.inr (.inr h)))))
      clear hne
      subst h1 h3 h4 h5
      match l, m, hl, hm, hok, hok', hd, h6 with
      | [], [], _, _, _, _, _, _ => exact rsame_zero opa va rela cola na sa qa ca vb sb qb cb w h2
      | [x], [y], hl, hm, hok, hok', hd, _ =>
        have hx : okL [x] = true := hok.2
        have hy : okL [y] = true := hok'.2
        rw [okL, okL, Bool.and_true] at hx hy
        rw [deepL, deepL] at hd
        exact rsame_one opa va rela cola na sa qa ca vb sb qb cb x y w h2 hl hm (rsame_any k x y (by omega) hx hy)
      | [x, x'], [y, y'], hl, hm, hok, hok', hd, _ =>
        have hx : okL [x, x'] = true := hok.2
        have hy : okL [y, y'] = true := hok'.2
        rw [okL, okL, okL, Bool.and_true, Bool.and_eq_true] at hx hy
        rw [deepL, deepL, deepL] at hd
        exact rsame_two opa va rela cola na sa qa ca vb sb qb cb x y x' y' w h2 hl hm (rsame_any k x y (by omega) hx.1 hy.1) (rsame_any k x' y' (by omega) hx.2 hy.2)
      | _ :: _ :: _ :: r, _, _, _, hok, _, _, _ =>
        have := head_two hok.1
        simp only [List.length_cons] at this
        omega

end Go.Proofs.YthdnbcdcfaocmaaDoor
