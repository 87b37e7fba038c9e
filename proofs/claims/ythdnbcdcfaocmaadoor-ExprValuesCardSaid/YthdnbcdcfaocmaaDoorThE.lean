/- The reference: whether all columns and parameters are there (there). -/
import Derived.Test.YthdnbcdcfaocmaaDoorExL
import Derived.Test.YthdnbcdcfaocmaaDoorDvM
import Derived.BigQuiet
namespace Go.Proofs.YthdnbcdcfaocmaaDoor
open Go.RowKit
set_option maxRecDepth 100000

set_option maxHeartbeats 8000000 in
theorem rthere_one (op : Int) (v : Val) (rel col n : Int) (s : ByteArray) (x : Ex) (q : Option Addr) (c : Nat) (w : World) (cv pv : Value) (cols : List (List Val)) (ps : List Val) (hk : VM w cv pv cols ps) (e2 : op ≠ 2) (e3 : op ≠ 3) (hl : ExL w q 0 [x]) (IHx : ∀ (cs : List Value) (w : World), ExM w x cs → VM w cv pv cols ps → Calls Tryd.prog 65 #[.agg cs.toArray, cv, pv] w fun e w' => e = .returned (.bool (thereE cols ps x)) ∧ Below w.heap.size w w') : Calls Tryd.prog 65 #[.agg (exCells op v rel col n s q ([x] : List Ex).length c).toArray, cv, pv] w fun e w' => e = .returned (.bool (thereE cols ps (.mk op v rel col n s [x]))) ∧ Below w.heap.size w w' := by
  have HS := Lib.hid (there_other (v := v) (rel := rel) (col := col) (n := n) (s := s) (l := [x]) (cols := cols) (ps := ps) e2 e3)
  have qop2 : (op == 2) = false := by rw [beq_eq_false_iff_ne]; exact e2
  have qop3 : (op == 3) = false := by rw [beq_eq_false_iff_ne]; exact e3
  have HK := Lib.hid hk
  clear e2 e3 hk
  have HL := Lib.hid hl
  clear hl
  have HIx := Lib.hid IHx
  clear IHx
  simp only [List.length_cons, List.length_nil, Nat.zero_add]
  have E0 := EB.new w op v rel col n s q 1 c 26
  have B0 : Below w.heap.size w (w.alloc (.cells (exCells op v rel col n s q 1 c).toArray 26)) := ext_alloc (ext_refl _) _
  obtain ⟨W, hW⟩ : ∃ W, W = w.alloc (.cells (exCells op v rel col n s q 1 c).toArray 26) := ⟨_, rfl⟩
  rw [← hW] at E0 B0
  go_enter Tryd.func65, Tryd.ntmps65
  go_upto_region 1 with fail
  rw [← hW]
  clear hW
  obtain ⟨g, hg⟩ : ∃ g, g = w.heap.size := ⟨_, rfl⟩
  have HB := Lib.hid B0
  rw [← hg] at E0
  rw [← hg]
  clear B0 hg
  have HE := Lib.hid E0
  obtain ⟨lt, c0, c1, c2, c3, c4, c5, c6, c7, c8⟩ := E0
  go_wp2_with fail
  go_big_quiet (fail)
  have hbU := ext_drewN (ext_refl W) nq
  have EU := HE.out.on hbU
  have HBU := HB.out.trans (hbU.mono HB.out.size)
  clear lt c0 c1 c2 c3 c4 c5 c6 c7 c8 HE HB hbU
  generalize W.drewN nq = U at EU HBU ⊢
  have HB := Lib.hid HBU
  have HE := Lib.hid EU
  clear HBU
  obtain ⟨lt, c0, c1, c2, c3, c4, c5, c6, c7, c8⟩ := EU
  have hl_0 := ExL.ext HB.out _ _ _ HL.out
  have HKW := Lib.hid (HK.out.on HB.out)
  have hl_ := ExL.at_ (j := 0) (x := x) hl_0 rfl
  obtain ⟨g0, off0, cs0, hq0, hg0, hx0, hcell⟩ := hl_
  subst hq0
  have HX0 := Lib.hid hx0
  obtain ⟨op1, v1, rel1, col1, n1, s1, l1⟩ := x
  rw [ExM.iff] at hx0
  obtain ⟨-, qq0, cc0, rfl, -, -⟩ := hx0
  have f0 := hcell 0 _ rfl
  have f1 := hcell 1 _ rfl
  have f2 := hcell 2 _ rfl
  have f3 := hcell 3 _ rfl
  have f4 := hcell 4 _ rfl
  have f5 := hcell 5 _ rfl
  have f6 := hcell 6 _ rfl
  have f7 := hcell 7 _ rfl
  have f8 := hcell 8 _ rfl
  simp only [Nat.zero_mul, Nat.add_zero] at f0 f1 f2 f3 f4 f5 f6 f7 f8
  clear hcell
  clear hl_0
  go_wp2_with fail
  refine wp_loop_rounds 2 ?_
  rw [rounds_succ]
  go_wp2_with fail
  refine (HIx.out _ _ HX0.out HKW.out).mono ?_
  rintro e Y ⟨he, hbY⟩
  have HBY := Lib.hid (HB.out.trans (hbY.mono HB.out.size))
  have EY := HE.out.on hbY
  clear hbY
  clear f0 f1 f2 f3 f4 f5 f6 f7 f8 c0 c1 c2 c3 c4 c5 c6 c7 c8 lt
  obtain ⟨lt, c0, c1, c2, c3, c4, c5, c6, c7, c8⟩ := EY
  cases hs : thereE cols ps (.mk op1 v1 rel1 col1 n1 s1 l1) with
  | false =>
    have HQ := Lib.hid hs
    rw [hs] at he
    clear hs
    subst he
    go_wp2_with fail
    refine bodyPost_ret (v := .bool false) (by simp [results, Tryd.results65, go_sem]) rfl ⟨by rw [HS.out, thereL, HQ.out, Bool.false_and], HBY.out⟩
  | true =>
    have HQ := Lib.hid hs
    rw [hs] at he
    clear hs
    subst he
    go_wp2_with fail
    rw [rounds_succ]
    go_wp2_with fail
    refine bodyPost_ret (v := .bool true) (by simp [results, Tryd.results65, go_sem]) rfl ⟨by rw [HS.out, thereL, thereL, HQ.out, Bool.true_and], HBY.out⟩

set_option maxHeartbeats 8000000 in
theorem rthere_two (op : Int) (v : Val) (rel col n : Int) (s : ByteArray) (x : Ex) (y : Ex) (q : Option Addr) (c : Nat) (w : World) (cv pv : Value) (cols : List (List Val)) (ps : List Val) (hk : VM w cv pv cols ps) (e2 : op ≠ 2) (e3 : op ≠ 3) (hl : ExL w q 0 [x, y]) (IHx : ∀ (cs : List Value) (w : World), ExM w x cs → VM w cv pv cols ps → Calls Tryd.prog 65 #[.agg cs.toArray, cv, pv] w fun e w' => e = .returned (.bool (thereE cols ps x)) ∧ Below w.heap.size w w') (IHy : ∀ (cs : List Value) (w : World), ExM w y cs → VM w cv pv cols ps → Calls Tryd.prog 65 #[.agg cs.toArray, cv, pv] w fun e w' => e = .returned (.bool (thereE cols ps y)) ∧ Below w.heap.size w w') : Calls Tryd.prog 65 #[.agg (exCells op v rel col n s q ([x, y] : List Ex).length c).toArray, cv, pv] w fun e w' => e = .returned (.bool (thereE cols ps (.mk op v rel col n s [x, y]))) ∧ Below w.heap.size w w' := by
  have HS := Lib.hid (there_other (v := v) (rel := rel) (col := col) (n := n) (s := s) (l := [x, y]) (cols := cols) (ps := ps) e2 e3)
  have qop2 : (op == 2) = false := by rw [beq_eq_false_iff_ne]; exact e2
  have qop3 : (op == 3) = false := by rw [beq_eq_false_iff_ne]; exact e3
  have HK := Lib.hid hk
  clear e2 e3 hk
  have HL := Lib.hid hl
  clear hl
  have HIx := Lib.hid IHx
  clear IHx
  have HIy := Lib.hid IHy
  clear IHy
  simp only [List.length_cons, List.length_nil, Nat.zero_add]
  have E0 := EB.new w op v rel col n s q 2 c 26
  have B0 : Below w.heap.size w (w.alloc (.cells (exCells op v rel col n s q 2 c).toArray 26)) := ext_alloc (ext_refl _) _
  obtain ⟨W, hW⟩ : ∃ W, W = w.alloc (.cells (exCells op v rel col n s q 2 c).toArray 26) := ⟨_, rfl⟩
  rw [← hW] at E0 B0
  go_enter Tryd.func65, Tryd.ntmps65
  go_upto_region 1 with fail
  rw [← hW]
  clear hW
  obtain ⟨g, hg⟩ : ∃ g, g = w.heap.size := ⟨_, rfl⟩
  have HB := Lib.hid B0
  rw [← hg] at E0
  rw [← hg]
  clear B0 hg
  have HE := Lib.hid E0
  obtain ⟨lt, c0, c1, c2, c3, c4, c5, c6, c7, c8⟩ := E0
  go_wp2_with fail
  go_big_quiet (fail)
  have hbU := ext_drewN (ext_refl W) nq
  have EU := HE.out.on hbU
  have HBU := HB.out.trans (hbU.mono HB.out.size)
  clear lt c0 c1 c2 c3 c4 c5 c6 c7 c8 HE HB hbU
  generalize W.drewN nq = U at EU HBU ⊢
  have HB := Lib.hid HBU
  have HE := Lib.hid EU
  clear HBU
  obtain ⟨lt, c0, c1, c2, c3, c4, c5, c6, c7, c8⟩ := EU
  have hl_0 := ExL.ext HB.out _ _ _ HL.out
  have HLW := Lib.hid hl_0
  have HKW := Lib.hid (HK.out.on HB.out)
  have hl_ := ExL.at_ (j := 0) (x := x) hl_0 rfl
  obtain ⟨g0, off0, cs0, hq0, hg0, hx0, hcell⟩ := hl_
  subst hq0
  have HX0 := Lib.hid hx0
  obtain ⟨op1, v1, rel1, col1, n1, s1, l1⟩ := x
  rw [ExM.iff] at hx0
  obtain ⟨-, qq0, cc0, rfl, -, -⟩ := hx0
  have f0 := hcell 0 _ rfl
  have f1 := hcell 1 _ rfl
  have f2 := hcell 2 _ rfl
  have f3 := hcell 3 _ rfl
  have f4 := hcell 4 _ rfl
  have f5 := hcell 5 _ rfl
  have f6 := hcell 6 _ rfl
  have f7 := hcell 7 _ rfl
  have f8 := hcell 8 _ rfl
  simp only [Nat.zero_mul, Nat.add_zero] at f0 f1 f2 f3 f4 f5 f6 f7 f8
  clear hcell
  clear hl_0
  go_wp2_with fail
  refine wp_loop_rounds 3 ?_
  rw [rounds_succ]
  go_wp2_with fail
  refine (HIx.out _ _ HX0.out HKW.out).mono ?_
  rintro e Y ⟨he, hbY⟩
  have HBY := Lib.hid (HB.out.trans (hbY.mono HB.out.size))
  have EY := HE.out.on hbY
  have HLY := Lib.hid (ExL.ext hbY _ _ _ HLW.out)
  have HKY := Lib.hid (HKW.out.on hbY)
  clear hbY
  clear f0 f1 f2 f3 f4 f5 f6 f7 f8 c0 c1 c2 c3 c4 c5 c6 c7 c8 lt
  have HEY := Lib.hid EY
  obtain ⟨lt, c0, c1, c2, c3, c4, c5, c6, c7, c8⟩ := EY
  cases hs : thereE cols ps (.mk op1 v1 rel1 col1 n1 s1 l1) with
  | false =>
    have HQ := Lib.hid hs
    rw [hs] at he
    clear hs
    subst he
    go_wp2_with fail
    refine bodyPost_ret (v := .bool false) (by simp [results, Tryd.results65, go_sem]) rfl ⟨by rw [HS.out, thereL, HQ.out, Bool.false_and], HBY.out⟩
  | true =>
    have HQ := Lib.hid hs
    rw [hs] at he
    clear hs
    subst he
    go_wp2_with fail
    have hl_ := ExL.at_ (j := 1) (x := y) HLY.out rfl
    obtain ⟨g1, off1, cs1, hq1, hg1, hx1, hcell⟩ := hl_
    obtain ⟨rfl, rfl⟩ : g1 = g0 ∧ off1 = off0 := by cases hq1; exact ⟨rfl, rfl⟩
    clear hq1
    have HX1 := Lib.hid hx1
    obtain ⟨op2, v2, rel2, col2, n2, s2, l2⟩ := y
    rw [ExM.iff] at hx1
    obtain ⟨-, qq1, cc1, rfl, -, -⟩ := hx1
    have f0 := hcell 0 _ rfl
    have f1 := hcell 1 _ rfl
    have f2 := hcell 2 _ rfl
    have f3 := hcell 3 _ rfl
    have f4 := hcell 4 _ rfl
    have f5 := hcell 5 _ rfl
    have f6 := hcell 6 _ rfl
    have f7 := hcell 7 _ rfl
    have f8 := hcell 8 _ rfl
    clear hcell
    rw [rounds_succ]
    go_wp2_with fail
    refine (HIy.out _ _ HX1.out HKY.out).mono ?_
    rintro e Z ⟨he, hbZ⟩
    have HBZ := Lib.hid (HBY.out.trans (hbZ.mono HBY.out.size))
    have EZ := HEY.out.on hbZ
    clear hbZ
    clear f0 f1 f2 f3 f4 f5 f6 f7 f8 c0 c1 c2 c3 c4 c5 c6 c7 c8 lt
    obtain ⟨lt, c0, c1, c2, c3, c4, c5, c6, c7, c8⟩ := EZ
    cases hs : thereE cols ps (.mk op2 v2 rel2 col2 n2 s2 l2) with
    | false =>
      have HQ2 := Lib.hid hs
      rw [hs] at he
      clear hs
      subst he
      go_wp2_with fail
      refine bodyPost_ret (v := .bool false) (by simp [results, Tryd.results65, go_sem]) rfl ⟨by rw [HS.out, thereL, thereL, HQ.out, HQ2.out, Bool.false_and, Bool.true_and], HBZ.out⟩
    | true =>
      have HQ2 := Lib.hid hs
      rw [hs] at he
      clear hs
      subst he
      go_wp2_with fail
      rw [rounds_succ]
      go_wp2_with fail
      refine bodyPost_ret (v := .bool true) (by simp [results, Tryd.results65, go_sem]) rfl ⟨by rw [HS.out, thereL, thereL, thereL, HQ.out, HQ2.out, Bool.true_and, Bool.true_and], HBZ.out⟩

set_option maxHeartbeats 8000000 in
theorem rthere_plain (op : Int) (v : Val) (rel col n : Int) (s : ByteArray) (q : Option Addr) (c : Nat) (w : World) (cv pv : Value) (cols : List (List Val)) (ps : List Val) (_ : VM w cv pv cols ps) (e2 : op ≠ 2) (e3 : op ≠ 3) : Calls Tryd.prog 65 #[.agg (exCells op v rel col n s q ([] : List Ex).length c).toArray, cv, pv] w fun e w' => e = .returned (.bool (thereE cols ps (.mk op v rel col n s []))) ∧ Below w.heap.size w w' := by
  have HS := Lib.hid (there_other (v := v) (rel := rel) (col := col) (n := n) (s := s) (l := []) (cols := cols) (ps := ps) e2 e3)
  have qop2 : (op == 2) = false := by rw [beq_eq_false_iff_ne]; exact e2
  have qop3 : (op == 3) = false := by rw [beq_eq_false_iff_ne]; exact e3
  clear e2 e3
  simp only [List.length_nil]
  have E0 := EB.new w op v rel col n s q 0 c 26
  have B0 : Below w.heap.size w (w.alloc (.cells (exCells op v rel col n s q 0 c).toArray 26)) := ext_alloc (ext_refl _) _
  obtain ⟨W, hW⟩ : ∃ W, W = w.alloc (.cells (exCells op v rel col n s q 0 c).toArray 26) := ⟨_, rfl⟩
  rw [← hW] at E0 B0
  go_enter Tryd.func65, Tryd.ntmps65
  go_upto_region 1 with fail
  rw [← hW]
  clear hW
  obtain ⟨g, hg⟩ : ∃ g, g = w.heap.size := ⟨_, rfl⟩
  have HB := Lib.hid B0
  have HGW := Lib.hid hg
  rw [← hg] at E0
  rw [← hg]
  clear B0 hg
  have HE := Lib.hid E0
  obtain ⟨lt, c0, c1, c2, c3, c4, c5, c6, c7, c8⟩ := E0
  go_wp2_with fail
  go_big_quiet (fail)
  have hbU := ext_drewN (ext_refl W) nq
  have EU := HE.out.on hbU
  have HBU := HB.out.trans (hbU.mono HB.out.size)
  clear lt c0 c1 c2 c3 c4 c5 c6 c7 c8 HE HB hbU
  generalize W.drewN nq = U at EU HBU ⊢
  have HB := Lib.hid HBU
  have HE := Lib.hid EU
  clear HBU
  obtain ⟨lt, c0, c1, c2, c3, c4, c5, c6, c7, c8⟩ := EU
  go_wp2_with fail
  refine wp_loop_rounds 1 ?_
  rw [rounds_succ]
  go_wp2_with fail
  refine bodyPost_ret (v := .bool true) (by simp [results, Tryd.results65, go_sem]) rfl ⟨by rw [HS.out, thereL], HB.out⟩

set_option maxHeartbeats 8000000 in
theorem rthere_param (op : Int) (v : Val) (rel col : Int) (s : ByteArray) (q : Option Addr) (c : Nat) (w : World) (cv pv : Value) (cols : List (List Val)) (ps : List Val) (hk : VM w cv pv cols ps) (e3 : op = 3) (m : Nat) : Calls Tryd.prog 65 #[.agg (exCells op v rel col ((m : Int) + 1) s q ([] : List Ex).length c).toArray, cv, pv] w fun e w' => e = .returned (.bool (thereE cols ps (.mk op v rel col ((m : Int) + 1) s []))) ∧ Below w.heap.size w w' := by
  have HS := Lib.hid (show thereE cols ps (.mk op v rel col ((m : Int) + 1) s []) = (ps[m]?).isSome by rw [thereE, leafV, if_neg (by omega), if_pos e3, thereL, Bool.and_true, show ((m : Int) + 1 - 1).toNat = m by omega])
  have qop2 : (op == 2) = false := by rw [beq_eq_false_iff_ne]; omega
  have qop3 : (op == 3) = true := by rw [beq_iff_eq]; exact e3
  clear e3
  obtain ⟨⟨cq, cc, rfl, hcc, hcm, -⟩, pq, pc, rfl, hpc, hpm, -⟩ := hk
  obtain ⟨n, hn⟩ : ∃ n : Int, n = (m : Int) + 1 := ⟨_, rfl⟩
  rw [← hn] at HS ⊢
  have HN := Lib.hid hn
  clear hn
  simp only [List.length_nil]
  have E0 := EB.new w op v rel col n s q 0 c 26
  have B0 : Below w.heap.size w (w.alloc (.cells (exCells op v rel col n s q 0 c).toArray 26)) := ext_alloc (ext_refl _) _
  obtain ⟨W, hW⟩ : ∃ W, W = w.alloc (.cells (exCells op v rel col n s q 0 c).toArray 26) := ⟨_, rfl⟩
  rw [← hW] at E0 B0
  go_enter Tryd.func65, Tryd.ntmps65
  go_upto_region 1 with fail
  rw [← hW]
  clear hW
  obtain ⟨g, hg⟩ : ∃ g, g = w.heap.size := ⟨_, rfl⟩
  have HB := Lib.hid B0
  have HGW := Lib.hid hg
  rw [← hg] at E0
  rw [← hg]
  clear B0 hg
  have HE := Lib.hid E0
  obtain ⟨lt, c0, c1, c2, c3, c4, c5, c6, c7, c8⟩ := E0
  rcases Nat.lt_or_ge m ps.length with hlt | hge
  · have HQ := Lib.hid (show (ps[m]?).isSome = true by rw [List.getElem?_eq_getElem hlt]; rfl)
    have hnl : n ≤ (ps.length : Int) := by have := HN.out; omega
    go_wp2_with fail
    have db0 : decide ((ps.length : Int) < n) = false := decide_eq_false (by omega)
    go_big_quiet (fail)
    have hbU := ext_drewN (ext_refl W) nq
    have EU := HE.out.on hbU
    have HBU := HB.out.trans (hbU.mono HB.out.size)
    clear lt c0 c1 c2 c3 c4 c5 c6 c7 c8 HE HB hbU
    generalize W.drewN nq = U at EU HBU ⊢
    have HB := Lib.hid HBU
    have HE := Lib.hid EU
    clear HBU
    obtain ⟨lt, c0, c1, c2, c3, c4, c5, c6, c7, c8⟩ := EU
    go_wp2_with fail
    refine wp_loop_rounds 1 ?_
    rw [rounds_succ]
    go_wp2_with fail
    refine bodyPost_ret (v := .bool true) (by simp [results, Tryd.results65, go_sem]) rfl ⟨by rw [HS.out, HQ.out], HB.out⟩
  · have HQ := Lib.hid (show (ps[m]?).isSome = false by rw [List.getElem?_eq_none hge]; rfl)
    have hnl : (ps.length : Int) < n := by have := HN.out; omega
    go_wp2_with fail
    have db0 : decide ((ps.length : Int) < n) = true := decide_eq_true (by omega)
    go_big_quiet (fail)
    have hbU := ext_drewN (ext_refl W) nq
    have EU := HE.out.on hbU
    have HBU := HB.out.trans (hbU.mono HB.out.size)
    clear lt c0 c1 c2 c3 c4 c5 c6 c7 c8 HE HB hbU
    generalize W.drewN nq = U at EU HBU ⊢
    have HB := Lib.hid HBU
    have HE := Lib.hid EU
    clear HBU
    obtain ⟨lt, c0, c1, c2, c3, c4, c5, c6, c7, c8⟩ := EU
    go_wp2_with fail
    refine bodyPost_ret (v := .bool false) (by simp [results, Tryd.results65, go_sem]) rfl ⟨by rw [HS.out, HQ.out], HB.out⟩

set_option maxHeartbeats 8000000 in
theorem rthere_col (op : Int) (v : Val) (n : Int) (s : ByteArray) (q : Option Addr) (c : Nat) (w : World) (cv pv : Value) (cols : List (List Val)) (ps : List Val) (hk : VM w cv pv cols ps) (e2 : op = 2) (r m : Nat) : Calls Tryd.prog 65 #[.agg (exCells op v (r : Int) (m : Int) n s q ([] : List Ex).length c).toArray, cv, pv] w fun e w' => e = .returned (.bool (thereE cols ps (.mk op v (r : Int) (m : Int) n s []))) ∧ Below w.heap.size w w' := by
  have HS := Lib.hid (show thereE cols ps (.mk op v (r : Int) (m : Int) n s []) = ((cols[r]?).bind fun l => l[m]?).isSome by rw [thereE, leafV, if_pos e2, thereL, Bool.and_true, Int.toNat_natCast, Int.toNat_natCast])
  have qop2 : (op == 2) = true := by rw [beq_iff_eq]; exact e2
  have qop3 : (op == 3) = false := by rw [beq_eq_false_iff_ne]; omega
  have HK := Lib.hid hk
  clear e2
  obtain ⟨⟨cq, cc, rfl, hcc, hcm, -⟩, pq, pc, rfl, hpc, hpm, -⟩ := hk
  obtain ⟨rel, hrel⟩ : ∃ rel : Int, rel = (r : Int) := ⟨_, rfl⟩
  obtain ⟨col, hcol⟩ : ∃ col : Int, col = (m : Int) := ⟨_, rfl⟩
  rw [← hrel, ← hcol] at HS ⊢
  have HREL := Lib.hid hrel
  have HCOL := Lib.hid hcol
  clear hrel hcol
  simp only [List.length_nil]
  have E0 := EB.new w op v rel col n s q 0 c 26
  have B0 : Below w.heap.size w (w.alloc (.cells (exCells op v rel col n s q 0 c).toArray 26)) := ext_alloc (ext_refl _) _
  obtain ⟨W, hW⟩ : ∃ W, W = w.alloc (.cells (exCells op v rel col n s q 0 c).toArray 26) := ⟨_, rfl⟩
  rw [← hW] at E0 B0
  go_enter Tryd.func65, Tryd.ntmps65
  go_upto_region 1 with fail
  rw [← hW]
  clear hW
  obtain ⟨g, hg⟩ : ∃ g, g = w.heap.size := ⟨_, rfl⟩
  have HB := Lib.hid B0
  have HGW := Lib.hid hg
  rw [← hg] at E0
  rw [← hg]
  clear B0 hg
  have HE := Lib.hid E0
  obtain ⟨lt, c0, c1, c2, c3, c4, c5, c6, c7, c8⟩ := E0
  have hrel := HREL.out
  have hcol := HCOL.out
  clear HREL HCOL
  subst hrel hcol
  rcases Nat.lt_or_ge r cols.length with hlt | hge
  · have d0 : ¬ (r : Int) ≥ (cols.length : Int) := by omega
    obtain ⟨⟨_, _, hsl, _, _, hP⟩, -⟩ := HK.out.on HB.out
    obtain ⟨rfl, -, rfl⟩ : cq = _ ∧ True ∧ cc = _ := by injection hsl with h1 _ h3; exact ⟨h1, trivial, h3⟩
    clear hsl
    obtain ⟨gp, offp, hq, _, hgp, hcell⟩ := ArrA.at_ hP hlt
    subst hq
    obtain ⟨lq, lc, hcell, hlc, hlm, hL⟩ := hcell
    rw [Nat.mul_one] at hcell
    obtain ⟨ll, hll⟩ : ∃ k, k = cols[r] := ⟨_, rfl⟩
    have HQ1 := Lib.hid (show ((cols[r]?).bind fun l => l[m]?).isSome = (ll[m]?).isSome by rw [hll, List.getElem?_eq_getElem hlt]; rfl)
    rw [← hll] at hcell hL hlc
    clear hll hP hL
    rcases Nat.lt_or_ge m ll.length with hlt2 | hge2
    · have d1 : ¬ (m : Int) ≥ (ll.length : Int) := by omega
      have HQ := Lib.hid (show (ll[m]?).isSome = true by rw [List.getElem?_eq_getElem hlt2]; rfl)
      go_wp2_with fail
      have db0 : decide (cols.length ≤ r) = false := decide_eq_false (by omega)
      have db1 : decide (ll.length ≤ m) = false := decide_eq_false (by omega)
      go_big_quiet (fail)
      have hbU := ext_drewN (ext_refl W) nq
      have EU := HE.out.on hbU
      have HBU := HB.out.trans (hbU.mono HB.out.size)
      clear hcell lt c0 c1 c2 c3 c4 c5 c6 c7 c8 HE HB hbU
      generalize W.drewN nq = U at EU HBU ⊢
      have HB := Lib.hid HBU
      have HE := Lib.hid EU
      clear HBU
      obtain ⟨lt, c0, c1, c2, c3, c4, c5, c6, c7, c8⟩ := EU
      go_wp2_with fail
      refine wp_loop_rounds 1 ?_
      rw [rounds_succ]
      go_wp2_with fail
      refine bodyPost_ret (v := .bool true) (by simp [results, Tryd.results65, go_sem]) rfl ⟨by rw [HS.out, HQ1.out, HQ.out], HB.out⟩
    · have d1 : (m : Int) ≥ (ll.length : Int) := by omega
      have HQ := Lib.hid (show (ll[m]?).isSome = false by rw [List.getElem?_eq_none hge2]; rfl)
      clear hge2
      go_wp2_with fail
      have db0 : decide (cols.length ≤ r) = false := decide_eq_false (by omega)
      have db1 : decide (ll.length ≤ m) = true := decide_eq_true (by omega)
      go_big_quiet (fail)
      have hbU := ext_drewN (ext_refl W) nq
      have EU := HE.out.on hbU
      have HBU := HB.out.trans (hbU.mono HB.out.size)
      clear hcell lt c0 c1 c2 c3 c4 c5 c6 c7 c8 HE HB hbU
      generalize W.drewN nq = U at EU HBU ⊢
      have HB := Lib.hid HBU
      have HE := Lib.hid EU
      clear HBU
      obtain ⟨lt, c0, c1, c2, c3, c4, c5, c6, c7, c8⟩ := EU
      go_wp2_with fail
      refine bodyPost_ret (v := .bool false) (by simp [results, Tryd.results65, go_sem]) rfl ⟨by rw [HS.out, HQ1.out, HQ.out], HB.out⟩
  · have d0 : (r : Int) ≥ (cols.length : Int) := by omega
    have HQ := Lib.hid (show ((cols[r]?).bind fun l => l[m]?).isSome = false by rw [List.getElem?_eq_none hge]; rfl)
    clear hge
    go_wp2_with fail
    have db0 : decide (cols.length ≤ r) = true := decide_eq_true (by omega)
    go_big_quiet (fail)
    have hbU := ext_drewN (ext_refl W) nq
    have EU := HE.out.on hbU
    have HBU := HB.out.trans (hbU.mono HB.out.size)
    clear lt c0 c1 c2 c3 c4 c5 c6 c7 c8 HE HB hbU
    generalize W.drewN nq = U at EU HBU ⊢
    have HB := Lib.hid HBU
    have HE := Lib.hid EU
    clear HBU
    obtain ⟨lt, c0, c1, c2, c3, c4, c5, c6, c7, c8⟩ := EU
    go_wp2_with fail
    refine bodyPost_ret (v := .bool false) (by simp [results, Tryd.results65, go_sem]) rfl ⟨by rw [HS.out, HQ.out], HB.out⟩

theorem rthere_any : ∀ (k : Nat) (x : Ex), x.deep ≤ k → x.okAll = true → ∀ (cs : List Value) (w : World) (cv pv : Value) (cols : List (List Val)) (ps : List Val), ExM w x cs → VM w cv pv cols ps → Calls Tryd.prog 65 #[.agg cs.toArray, cv, pv] w fun e w' => e = .returned (.bool (thereE cols ps x)) ∧ Below w.heap.size w w'
  | 0, x, h, _, _, _, _, _, _, _, _, _ => absurd h (by have := deep_pos x; omega)
  | k + 1, .mk op v rel col n s l, hd, hok, cs, w, cv, pv, cols, ps, h, hk => by
    rw [ExM.iff] at h
    obtain ⟨-, q, c, rfl, -, hl⟩ := h
    rw [Ex.okAll, Bool.and_eq_true] at hok
    rw [Ex.deep] at hd
    match l, hl, hok, hd with
    | [], _, hok, _ =>
      by_cases e2 : op = 2
      · have hr := rel_ok hok.1 e2
        have hc := col_ok hok.1 e2
        obtain ⟨r, rfl⟩ : ∃ r : Nat, rel = (r : Int) := ⟨rel.toNat, by omega⟩
        obtain ⟨m, rfl⟩ : ∃ m : Nat, col = (m : Int) := ⟨col.toNat, by omega⟩
        exact rthere_col op v n s q c w cv pv cols ps hk e2 r m
      · by_cases e3 : op = 3
        · have hn := n_ok hok.1 e3
          obtain ⟨m, rfl⟩ : ∃ m : Nat, n = (m : Int) + 1 := ⟨(n - 1).toNat, by omega⟩
          exact rthere_param op v rel col s q c w cv pv cols ps hk e3 m
        · exact rthere_plain op v rel col n s q c w cv pv cols ps hk e2 e3
    | [x], hl, hok, hd =>
      have hx : okL [x] = true := hok.2
      rw [okL, okL, Bool.and_true] at hx
      rw [deepL, deepL] at hd
      have h2 := op_two hok.1 (by simp)
      have h3 : op ≠ 3 := fun e => by have := (head_parts hok.1).1; rw [e] at this; simp [wantsOf] at this
      exact rthere_one op v rel col n s x q c w cv pv cols ps hk h2 h3 hl (fun cs w hx' hk' => rthere_any k x (by omega) hx cs w cv pv cols ps hx' hk')
    | [x, y], hl, hok, hd =>
      have hx : okL [x, y] = true := hok.2
      rw [okL, okL, okL, Bool.and_true, Bool.and_eq_true] at hx
      rw [deepL, deepL, deepL] at hd
      have h2 := op_two hok.1 (by simp)
      have h3 : op ≠ 3 := fun e => by have := (head_parts hok.1).1; rw [e] at this; simp [wantsOf] at this
      exact rthere_two op v rel col n s x y q c w cv pv cols ps hk h2 h3 hl (fun cs w hx' hk' => rthere_any k x (by omega) hx.1 cs w cv pv cols ps hx' hk') (fun cs w hx' hk' => rthere_any k y (by omega) hx.2 cs w cv pv cols ps hx' hk')
    | _ :: _ :: _ :: r, _, hok, _ =>
      have := head_two hok.1
      simp only [List.length_cons] at this
      omega

end Go.Proofs.YthdnbcdcfaocmaaDoor
