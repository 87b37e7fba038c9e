/- The reference: whether an expression may fail (safe, Safe). -/
import Derived.Test.YthdnbcdcfaocmaaDoorExC
namespace Go.Proofs.YthdnbcdcfaocmaaDoor
open Go.RowKit
set_option maxRecDepth 100000

theorem safe_no {op : Int} {v : Val} {rel col n : Int} {s : ByteArray} {l : List Ex} (h1 : 4 ≤ op) (h2 : op ≤ 8) : (Ex.mk op v rel col n s l).safe = false := by
  rw [Ex.safe, decide_eq_true h1, decide_eq_true h2]; rfl
theorem safe_go {op : Int} {v : Val} {rel col n : Int} {s : ByteArray} {l : List Ex} (h : op < 4 ∨ 8 < op) : (Ex.mk op v rel col n s l).safe = safeL l := by
  rw [Ex.safe]
  rcases h with h | h
  · rw [decide_eq_false (show ¬ 4 ≤ op by omega)]; rfl
  · rw [decide_eq_false (show ¬ op ≤ 8 by omega), Bool.and_false]; rfl

set_option maxHeartbeats 8000000 in
theorem rsafe_zero (op : Int) (v : Val) (rel col n : Int) (s : ByteArray) (q : Option Addr) (c : Nat) (w : World) : Calls Tryd.prog 51 #[.agg (exCells op v rel col n s q ([] : List Ex).length c).toArray] w fun e w' => e = .returned (.bool (Ex.mk op v rel col n s []).safe) ∧ Below w.heap.size w w' := by
  simp only [List.length_nil]
  have E0 := EB.new w op v rel col n s q 0 c 26
  have B0 : Below w.heap.size w (w.alloc (.cells (exCells op v rel col n s q 0 c).toArray 26)) := ext_alloc (ext_refl _) _
  obtain ⟨W, hW⟩ : ∃ W, W = w.alloc (.cells (exCells op v rel col n s q 0 c).toArray 26) := ⟨_, rfl⟩
  rw [← hW] at E0 B0
  go_enter Tryd.func51, Tryd.ntmps51
  go_upto_region 1 with fail
  rw [← hW]
  clear hW
  obtain ⟨g, hg⟩ : ∃ g, g = w.heap.size := ⟨_, rfl⟩
  have HB := Lib.hid B0
  rw [← hg] at E0
  rw [← hg]
  clear B0 hg
  have HE := Lib.hid E0
  obtain ⟨lt, c0, c1, c2, c3, c4, c5, c6, c7, c8⟩ := E0
  rcases Int.lt_or_le op 4 with ha | ha
  · have d1 : ¬ op ≥ 4 := by omega
    have HS := Lib.hid (safe_go (op := op) (v := v) (rel := rel) (col := col) (n := n) (s := s) (l := []) (.inl ha))
    clear ha
    go_wp2_with fail
    refine wp_loop_rounds 1 ?_
    rw [rounds_succ]
    go_wp2_with fail
    refine bodyPost_ret (v := .bool true) (by simp [results, Tryd.results51, go_sem]) rfl ⟨by rw [HS.out, safeL], HB.out⟩
  · rcases Int.lt_or_le 8 op with hb | hb
    · have d1 : op ≥ 4 := by omega
      have d2 : ¬ op ≤ 8 := by omega
      have HS := Lib.hid (safe_go (op := op) (v := v) (rel := rel) (col := col) (n := n) (s := s) (l := []) (.inr hb))
      clear ha hb
      go_wp2_with fail
      refine wp_loop_rounds 1 ?_
      rw [rounds_succ]
      go_wp2_with fail
      refine bodyPost_ret (v := .bool true) (by simp [results, Tryd.results51, go_sem]) rfl ⟨by rw [HS.out, safeL], HB.out⟩
    · have d1 : op ≥ 4 := by omega
      have HS := Lib.hid (safe_no (v := v) (rel := rel) (col := col) (n := n) (s := s) (l := []) ha hb)
      clear ha
      go_wp2_with fail
      refine bodyPost_ret (v := .bool false) (by simp [results, Tryd.results51, go_sem]) rfl ⟨by rw [HS.out], HB.out⟩

set_option maxHeartbeats 8000000 in
theorem rsafe_one (op : Int) (v : Val) (rel col n : Int) (s : ByteArray) (x : Ex) (q : Option Addr) (c : Nat) (w : World) (hl : ExL w q 0 [x]) (IHx : ∀ (cs : List Value) (w : World), ExM w x cs → Calls Tryd.prog 51 #[.agg cs.toArray] w fun e w' => e = .returned (.bool x.safe) ∧ Below w.heap.size w w') : Calls Tryd.prog 51 #[.agg (exCells op v rel col n s q ([x] : List Ex).length c).toArray] w fun e w' => e = .returned (.bool (Ex.mk op v rel col n s [x]).safe) ∧ Below w.heap.size w w' := by
  have HL := Lib.hid hl
  clear hl
  have HIx := Lib.hid IHx
  clear IHx
  simp only [List.length_cons, List.length_nil, Nat.zero_add]
  have E0 := EB.new w op v rel col n s q 1 c 26
  have B0 : Below w.heap.size w (w.alloc (.cells (exCells op v rel col n s q 1 c).toArray 26)) := ext_alloc (ext_refl _) _
  obtain ⟨W, hW⟩ : ∃ W, W = w.alloc (.cells (exCells op v rel col n s q 1 c).toArray 26) := ⟨_, rfl⟩
  rw [← hW] at E0 B0
  go_enter Tryd.func51, Tryd.ntmps51
  go_upto_region 1 with fail
  rw [← hW]
  clear hW
  obtain ⟨g, hg⟩ : ∃ g, g = w.heap.size := ⟨_, rfl⟩
  have HB := Lib.hid B0
  rw [← hg] at E0
  rw [← hg]
  clear B0 hg
  have HE := Lib.hid E0
  obtain ⟨lt, c0, c1, c2, c3, c4, c5, c6, c7, c8⟩ := E0
  rcases Int.lt_or_le op 4 with ha | ha
  · have d1 : ¬ op ≥ 4 := by omega
    have HS := Lib.hid (safe_go (op := op) (v := v) (rel := rel) (col := col) (n := n) (s := s) (l := [x]) (.inl ha))
    clear ha
    have hl_0 := ExL.ext HB.out _ _ _ HL.out
    have hl_ := ExL.at_ (j := 0) (x := x) hl_0 rfl
    obtain ⟨g0, off0, cs0, hq0, hg0, hx0, hcell⟩ := hl_
    subst hq0
    have HX0 := Lib.hid hx0
    obtain ⟨op1, v1, rel1, col1, n1, s1, l1⟩ := x
    rw [ExM.iff] at hx0
    obtain ⟨-, qq0, cc0, rfl, -, -⟩ := hx0
    have f0 := hcell 0 _ rfl
    have f1 := hcell 1 _ rfl
    have f2 := hcell 2 _ rfl
    have f3 := hcell 3 _ rfl
    have f4 := hcell 4 _ rfl
    have f5 := hcell 5 _ rfl
    have f6 := hcell 6 _ rfl
    have f7 := hcell 7 _ rfl
    have f8 := hcell 8 _ rfl
    simp only [Nat.zero_mul, Nat.add_zero] at f0 f1 f2 f3 f4 f5 f6 f7 f8
    clear hcell
    clear hl_0
    go_wp2_with fail
    refine wp_loop_rounds 2 ?_
    rw [rounds_succ]
    go_wp2_with fail
    refine (HIx.out _ _ HX0.out).mono ?_
    rintro e Y ⟨he, hbY⟩
    have HBY := Lib.hid (HB.out.trans (hbY.mono HB.out.size))
    have EY := HE.out.on hbY
    clear hbY
    clear f0 f1 f2 f3 f4 f5 f6 f7 f8 c0 c1 c2 c3 c4 c5 c6 c7 c8 lt
    obtain ⟨lt, c0, c1, c2, c3, c4, c5, c6, c7, c8⟩ := EY
    cases hs : (Ex.mk op1 v1 rel1 col1 n1 s1 l1).safe with
    | false =>
      have HQ := Lib.hid hs
      rw [hs] at he
      clear hs
      subst he
      go_wp2_with fail
      refine bodyPost_ret (v := .bool false) (by simp [results, Tryd.results51, go_sem]) rfl ⟨by rw [HS.out, safeL, HQ.out, Bool.false_and], HBY.out⟩
    | true =>
      have HQ := Lib.hid hs
      rw [hs] at he
      clear hs
      subst he
      go_wp2_with fail
      rw [rounds_succ]
      go_wp2_with fail
      refine bodyPost_ret (v := .bool true) (by simp [results, Tryd.results51, go_sem]) rfl ⟨by rw [HS.out, safeL, safeL, HQ.out, Bool.true_and], HBY.out⟩
  · rcases Int.lt_or_le 8 op with hb | hb
    · have d1 : op ≥ 4 := by omega
      have d2 : ¬ op ≤ 8 := by omega
      have HS := Lib.hid (safe_go (op := op) (v := v) (rel := rel) (col := col) (n := n) (s := s) (l := [x]) (.inr hb))
      clear ha hb
      have hl_0 := ExL.ext HB.out _ _ _ HL.out
      have hl_ := ExL.at_ (j := 0) (x := x) hl_0 rfl
      obtain ⟨g0, off0, cs0, hq0, hg0, hx0, hcell⟩ := hl_
      subst hq0
      have HX0 := Lib.hid hx0
      obtain ⟨op1, v1, rel1, col1, n1, s1, l1⟩ := x
      rw [ExM.iff] at hx0
      obtain ⟨-, qq0, cc0, rfl, -, -⟩ := hx0
      have f0 := hcell 0 _ rfl
      have f1 := hcell 1 _ rfl
      have f2 := hcell 2 _ rfl
      have f3 := hcell 3 _ rfl
      have f4 := hcell 4 _ rfl
      have f5 := hcell 5 _ rfl
      have f6 := hcell 6 _ rfl
      have f7 := hcell 7 _ rfl
      have f8 := hcell 8 _ rfl
      simp only [Nat.zero_mul, Nat.add_zero] at f0 f1 f2 f3 f4 f5 f6 f7 f8
      clear hcell
      clear hl_0
      go_wp2_with fail
      refine wp_loop_rounds 2 ?_
      rw [rounds_succ]
      go_wp2_with fail
      refine (HIx.out _ _ HX0.out).mono ?_
      rintro e Y ⟨he, hbY⟩
      have HBY := Lib.hid (HB.out.trans (hbY.mono HB.out.size))
      have EY := HE.out.on hbY
      clear hbY
      clear f0 f1 f2 f3 f4 f5 f6 f7 f8 c0 c1 c2 c3 c4 c5 c6 c7 c8 lt
      obtain ⟨lt, c0, c1, c2, c3, c4, c5, c6, c7, c8⟩ := EY
      cases hs : (Ex.mk op1 v1 rel1 col1 n1 s1 l1).safe with
      | false =>
        have HQ := Lib.hid hs
        rw [hs] at he
        clear hs
        subst he
        go_wp2_with fail
        refine bodyPost_ret (v := .bool false) (by simp [results, Tryd.results51, go_sem]) rfl ⟨by rw [HS.out, safeL, HQ.out, Bool.false_and], HBY.out⟩
      | true =>
        have HQ := Lib.hid hs
        rw [hs] at he
        clear hs
        subst he
        go_wp2_with fail
        rw [rounds_succ]
        go_wp2_with fail
        refine bodyPost_ret (v := .bool true) (by simp [results, Tryd.results51, go_sem]) rfl ⟨by rw [HS.out, safeL, safeL, HQ.out, Bool.true_and], HBY.out⟩
    · have d1 : op ≥ 4 := by omega
      have HS := Lib.hid (safe_no (v := v) (rel := rel) (col := col) (n := n) (s := s) (l := [x]) ha hb)
      clear ha
      go_wp2_with fail
      refine bodyPost_ret (v := .bool false) (by simp [results, Tryd.results51, go_sem]) rfl ⟨by rw [HS.out], HB.out⟩

set_option maxHeartbeats 8000000 in
theorem rsafe_two (op : Int) (v : Val) (rel col n : Int) (s : ByteArray) (x : Ex) (y : Ex) (q : Option Addr) (c : Nat) (w : World) (hl : ExL w q 0 [x, y]) (IHx : ∀ (cs : List Value) (w : World), ExM w x cs → Calls Tryd.prog 51 #[.agg cs.toArray] w fun e w' => e = .returned (.bool x.safe) ∧ Below w.heap.size w w') (IHy : ∀ (cs : List Value) (w : World), ExM w y cs → Calls Tryd.prog 51 #[.agg cs.toArray] w fun e w' => e = .returned (.bool y.safe) ∧ Below w.heap.size w w') : Calls Tryd.prog 51 #[.agg (exCells op v rel col n s q ([x, y] : List Ex).length c).toArray] w fun e w' => e = .returned (.bool (Ex.mk op v rel col n s [x, y]).safe) ∧ Below w.heap.size w w' := by
  have HL := Lib.hid hl
  clear hl
  have HIx := Lib.hid IHx
  clear IHx
  have HIy := Lib.hid IHy
  clear IHy
  simp only [List.length_cons, List.length_nil, Nat.zero_add]
  have E0 := EB.new w op v rel col n s q 2 c 26
  have B0 : Below w.heap.size w (w.alloc (.cells (exCells op v rel col n s q 2 c).toArray 26)) := ext_alloc (ext_refl _) _
  obtain ⟨W, hW⟩ : ∃ W, W = w.alloc (.cells (exCells op v rel col n s q 2 c).toArray 26) := ⟨_, rfl⟩
  rw [← hW] at E0 B0
  go_enter Tryd.func51, Tryd.ntmps51
  go_upto_region 1 with fail
  rw [← hW]
  clear hW
  obtain ⟨g, hg⟩ : ∃ g, g = w.heap.size := ⟨_, rfl⟩
  have HB := Lib.hid B0
  rw [← hg] at E0
  rw [← hg]
  clear B0 hg
  have HE := Lib.hid E0
  obtain ⟨lt, c0, c1, c2, c3, c4, c5, c6, c7, c8⟩ := E0
  rcases Int.lt_or_le op 4 with ha | ha
  · have d1 : ¬ op ≥ 4 := by omega
    have HS := Lib.hid (safe_go (op := op) (v := v) (rel := rel) (col := col) (n := n) (s := s) (l := [x, y]) (.inl ha))
    clear ha
    have hl_0 := ExL.ext HB.out _ _ _ HL.out
    have HLW := Lib.hid hl_0
    have hl_ := ExL.at_ (j := 0) (x := x) hl_0 rfl
    obtain ⟨g0, off0, cs0, hq0, hg0, hx0, hcell⟩ := hl_
    subst hq0
    have HX0 := Lib.hid hx0
    obtain ⟨op1, v1, rel1, col1, n1, s1, l1⟩ := x
    rw [ExM.iff] at hx0
    obtain ⟨-, qq0, cc0, rfl, -, -⟩ := hx0
    have f0 := hcell 0 _ rfl
    have f1 := hcell 1 _ rfl
    have f2 := hcell 2 _ rfl
    have f3 := hcell 3 _ rfl
    have f4 := hcell 4 _ rfl
    have f5 := hcell 5 _ rfl
    have f6 := hcell 6 _ rfl
    have f7 := hcell 7 _ rfl
    have f8 := hcell 8 _ rfl
    simp only [Nat.zero_mul, Nat.add_zero] at f0 f1 f2 f3 f4 f5 f6 f7 f8
    clear hcell
    clear hl_0
    go_wp2_with fail
    refine wp_loop_rounds 3 ?_
    rw [rounds_succ]
    go_wp2_with fail
    refine (HIx.out _ _ HX0.out).mono ?_
    rintro e Y ⟨he, hbY⟩
    have HBY := Lib.hid (HB.out.trans (hbY.mono HB.out.size))
    have EY := HE.out.on hbY
    have HLY := Lib.hid (ExL.ext hbY _ _ _ HLW.out)
    clear hbY
    clear f0 f1 f2 f3 f4 f5 f6 f7 f8 c0 c1 c2 c3 c4 c5 c6 c7 c8 lt
    have HEY := Lib.hid EY
    obtain ⟨lt, c0, c1, c2, c3, c4, c5, c6, c7, c8⟩ := EY
    cases hs : (Ex.mk op1 v1 rel1 col1 n1 s1 l1).safe with
    | false =>
      have HQ := Lib.hid hs
      rw [hs] at he
      clear hs
      subst he
      go_wp2_with fail
      refine bodyPost_ret (v := .bool false) (by simp [results, Tryd.results51, go_sem]) rfl ⟨by rw [HS.out, safeL, HQ.out, Bool.false_and], HBY.out⟩
    | true =>
      have HQ := Lib.hid hs
      rw [hs] at he
      clear hs
      subst he
      go_wp2_with fail
      have hl_ := ExL.at_ (j := 1) (x := y) HLY.out rfl
      obtain ⟨g1, off1, cs1, hq1, hg1, hx1, hcell⟩ := hl_
      obtain ⟨rfl, rfl⟩ : g1 = g0 ∧ off1 = off0 := by cases hq1; exact ⟨rfl, rfl⟩
      clear hq1
      have HX1 := Lib.hid hx1
      obtain ⟨op2, v2, rel2, col2, n2, s2, l2⟩ := y
      rw [ExM.iff] at hx1
      obtain ⟨-, qq1, cc1, rfl, -, -⟩ := hx1
      have f0 := hcell 0 _ rfl
      have f1 := hcell 1 _ rfl
      have f2 := hcell 2 _ rfl
      have f3 := hcell 3 _ rfl
      have f4 := hcell 4 _ rfl
      have f5 := hcell 5 _ rfl
      have f6 := hcell 6 _ rfl
      have f7 := hcell 7 _ rfl
      have f8 := hcell 8 _ rfl
      clear hcell
      rw [rounds_succ]
      go_wp2_with fail
      refine (HIy.out _ _ HX1.out).mono ?_
      rintro e Z ⟨he, hbZ⟩
      have HBZ := Lib.hid (HBY.out.trans (hbZ.mono HBY.out.size))
      have EZ := HEY.out.on hbZ
      clear hbZ
      clear f0 f1 f2 f3 f4 f5 f6 f7 f8 c0 c1 c2 c3 c4 c5 c6 c7 c8 lt
      obtain ⟨lt, c0, c1, c2, c3, c4, c5, c6, c7, c8⟩ := EZ
      cases hs : (Ex.mk op2 v2 rel2 col2 n2 s2 l2).safe with
      | false =>
        have HQ2 := Lib.hid hs
        rw [hs] at he
        clear hs
        subst he
        go_wp2_with fail
        refine bodyPost_ret (v := .bool false) (by simp [results, Tryd.results51, go_sem]) rfl ⟨by rw [HS.out, safeL, safeL, HQ.out, HQ2.out, Bool.false_and, Bool.true_and], HBZ.out⟩
      | true =>
        have HQ2 := Lib.hid hs
        rw [hs] at he
        clear hs
        subst he
        go_wp2_with fail
        rw [rounds_succ]
        go_wp2_with fail
        refine bodyPost_ret (v := .bool true) (by simp [results, Tryd.results51, go_sem]) rfl ⟨by rw [HS.out, safeL, safeL, safeL, HQ.out, HQ2.out, Bool.true_and, Bool.true_and], HBZ.out⟩
  · rcases Int.lt_or_le 8 op with hb | hb
    · have d1 : op ≥ 4 := by omega
      have d2 : ¬ op ≤ 8 := by omega
      have HS := Lib.hid (safe_go (op := op) (v := v) (rel := rel) (col := col) (n := n) (s := s) (l := [x, y]) (.inr hb))
      clear ha hb
      have hl_0 := ExL.ext HB.out _ _ _ HL.out
      have HLW := Lib.hid hl_0
      have hl_ := ExL.at_ (j := 0) (x := x) hl_0 rfl
      obtain ⟨g0, off0, cs0, hq0, hg0, hx0, hcell⟩ := hl_
      subst hq0
      have HX0 := Lib.hid hx0
      obtain ⟨op1, v1, rel1, col1, n1, s1, l1⟩ := x
      rw [ExM.iff] at hx0
      obtain ⟨-, qq0, cc0, rfl, -, -⟩ := hx0
      have f0 := hcell 0 _ rfl
      have f1 := hcell 1 _ rfl
      have f2 := hcell 2 _ rfl
      have f3 := hcell 3 _ rfl
      have f4 := hcell 4 _ rfl
      have f5 := hcell 5 _ rfl
      have f6 := hcell 6 _ rfl
      have f7 := hcell 7 _ rfl
      have f8 := hcell 8 _ rfl
      simp only [Nat.zero_mul, Nat.add_zero] at f0 f1 f2 f3 f4 f5 f6 f7 f8
      clear hcell
      clear hl_0
      go_wp2_with fail
      refine wp_loop_rounds 3 ?_
      rw [rounds_succ]
      go_wp2_with fail
      refine (HIx.out _ _ HX0.out).mono ?_
      rintro e Y ⟨he, hbY⟩
      have HBY := Lib.hid (HB.out.trans (hbY.mono HB.out.size))
      have EY := HE.out.on hbY
      have HLY := Lib.hid (ExL.ext hbY _ _ _ HLW.out)
      clear hbY
      clear f0 f1 f2 f3 f4 f5 f6 f7 f8 c0 c1 c2 c3 c4 c5 c6 c7 c8 lt
      have HEY := Lib.hid EY
      obtain ⟨lt, c0, c1, c2, c3, c4, c5, c6, c7, c8⟩ := EY
      cases hs : (Ex.mk op1 v1 rel1 col1 n1 s1 l1).safe with
      | false =>
        have HQ := Lib.hid hs
        rw [hs] at he
        clear hs
        subst he
        go_wp2_with fail
        refine bodyPost_ret (v := .bool false) (by simp [results, Tryd.results51, go_sem]) rfl ⟨by rw [HS.out, safeL, HQ.out, Bool.false_and], HBY.out⟩
      | true =>
        have HQ := Lib.hid hs
        rw [hs] at he
        clear hs
        subst he
        go_wp2_with fail
        have hl_ := ExL.at_ (j := 1) (x := y) HLY.out rfl
        obtain ⟨g1, off1, cs1, hq1, hg1, hx1, hcell⟩ := hl_
        obtain ⟨rfl, rfl⟩ : g1 = g0 ∧ off1 = off0 := by cases hq1; exact ⟨rfl, rfl⟩
        clear hq1
        have HX1 := Lib.hid hx1
        obtain ⟨op2, v2, rel2, col2, n2, s2, l2⟩ := y
        rw [ExM.iff] at hx1
        obtain ⟨-, qq1, cc1, rfl, -, -⟩ := hx1
        have f0 := hcell 0 _ rfl
        have f1 := hcell 1 _ rfl
        have f2 := hcell 2 _ rfl
        have f3 := hcell 3 _ rfl
        have f4 := hcell 4 _ rfl
        have f5 := hcell 5 _ rfl
        have f6 := hcell 6 _ rfl
        have f7 := hcell 7 _ rfl
        have f8 := hcell 8 _ rfl
        clear hcell
        rw [rounds_succ]
        go_wp2_with fail
        refine (HIy.out _ _ HX1.out).mono ?_
        rintro e Z ⟨he, hbZ⟩
        have HBZ := Lib.hid (HBY.out.trans (hbZ.mono HBY.out.size))
        have EZ := HEY.out.on hbZ
        clear hbZ
        clear f0 f1 f2 f3 f4 f5 f6 f7 f8 c0 c1 c2 c3 c4 c5 c6 c7 c8 lt
        obtain ⟨lt, c0, c1, c2, c3, c4, c5, c6, c7, c8⟩ := EZ
        cases hs : (Ex.mk op2 v2 rel2 col2 n2 s2 l2).safe with
        | false =>
          have HQ2 := Lib.hid hs
          rw [hs] at he
          clear hs
          subst he
          go_wp2_with fail
          refine bodyPost_ret (v := .bool false) (by simp [results, Tryd.results51, go_sem]) rfl ⟨by rw [HS.out, safeL, safeL, HQ.out, HQ2.out, Bool.false_and, Bool.true_and], HBZ.out⟩
        | true =>
          have HQ2 := Lib.hid hs
          rw [hs] at he
          clear hs
          subst he
          go_wp2_with fail
          rw [rounds_succ]
          go_wp2_with fail
          refine bodyPost_ret (v := .bool true) (by simp [results, Tryd.results51, go_sem]) rfl ⟨by rw [HS.out, safeL, safeL, safeL, HQ.out, HQ2.out, Bool.true_and, Bool.true_and], HBZ.out⟩
    · have d1 : op ≥ 4 := by omega
      have HS := Lib.hid (safe_no (v := v) (rel := rel) (col := col) (n := n) (s := s) (l := [x, y]) ha hb)
      clear ha
      go_wp2_with fail
      refine bodyPost_ret (v := .bool false) (by simp [results, Tryd.results51, go_sem]) rfl ⟨by rw [HS.out], HB.out⟩

theorem rsafe_any : ∀ (k : Nat) (x : Ex), x.deep ≤ k → x.okAll = true → ∀ (cs : List Value) (w : World), ExM w x cs → Calls Tryd.prog 51 #[.agg cs.toArray] w fun e w' => e = .returned (.bool x.safe) ∧ Below w.heap.size w w'
  | 0, x, h, _, _, _, _ => absurd h (by have := deep_pos x; omega)
  | k + 1, .mk op v rel col n s l, hd, hok, cs, w, h => by
    rw [ExM.iff] at h
    obtain ⟨-, q, c, rfl, -, hl⟩ := h
    rw [Ex.okAll, Bool.and_eq_true] at hok
    rw [Ex.deep] at hd
    match l, hl, hok, hd with
    | [], _, hok, _ => exact rsafe_zero op v rel col n s q c w
    | [x], hl, hok, hd =>
      have hx : okL [x] = true := hok.2
      rw [okL, okL, Bool.and_true] at hx
      rw [deepL, deepL] at hd
      exact rsafe_one op v rel col n s x q c w hl (rsafe_any k x (by omega) hx)
    | [x, y], hl, hok, hd =>
      have hx : okL [x, y] = true := hok.2
      rw [okL, okL, okL, Bool.and_true, Bool.and_eq_true] at hx
      rw [deepL, deepL, deepL] at hd
      exact rsafe_two op v rel col n s x y q c w hl (rsafe_any k x (by omega) hx.1) (rsafe_any k y (by omega) hx.2)
    | _ :: _ :: _ :: r, _, hok, _ =>
      have := head_two hok.1
      simp only [List.length_cons] at this
      omega

theorem rightE_parts {x : Ex} (h : rightE x = true) : x.okAll = true ∧ x.deep ≤ 20 ∧ x.count ≤ 200 := by
  unfold rightE sizesE at h
  split at h
  · assumption
  · cases h

set_option maxHeartbeats 4000000 in
theorem safeE_any (x : Ex) (cs : List Value) (w : World) (h : ExM w x cs) : Calls Tryd.prog 22 #[.agg cs.toArray] w fun e w' => e = .returned (.bool (rightE x && x.safe)) ∧ Below w.heap.size w w' := by
  obtain ⟨op, v, rel, col, n, s, l⟩ := x
  have hx := h
  rw [ExM.iff] at h
  obtain ⟨-, q, c, rfl, -, -⟩ := h
  have E0 := EB.new w op v rel col n s q l.length c 26
  have B0 : Below w.heap.size w (w.alloc (.cells (exCells op v rel col n s q l.length c).toArray 26)) := ext_alloc (ext_refl _) _
  have HX := Lib.hid (ExM.ext B0 _ _ hx)
  obtain ⟨W, hW⟩ : ∃ W, W = w.alloc (.cells (exCells op v rel col n s q l.length c).toArray 26) := ⟨_, rfl⟩
  rw [← hW] at E0 B0 HX
  have H := Lib.hid (rightE_any _ _ _ HX.out)
  go_enter Tryd.func22, Tryd.ntmps22
  go_upto_region 1 with fail
  rw [← hW]
  clear hW hx
  obtain ⟨g, hg⟩ : ∃ g, g = w.heap.size := ⟨_, rfl⟩
  have HB := Lib.hid B0
  rw [← hg] at E0
  rw [← hg]
  clear B0 hg
  have HE := Lib.hid E0
  obtain ⟨lt, c0, c1, c2, c3, c4, c5, c6, c7, c8⟩ := E0
  go_wp2_with fail
  refine H.out.mono ?_
  rintro e Y ⟨he, hbY⟩
  have HBY := Lib.hid (HB.out.trans (hbY.mono HB.out.size))
  have EY := HE.out.on hbY
  have HXY := Lib.hid (ExM.ext hbY _ _ HX.out)
  clear hbY lt c0 c1 c2 c3 c4 c5 c6 c7 c8
  obtain ⟨lt, c0, c1, c2, c3, c4, c5, c6, c7, c8⟩ := EY
  cases hs : rightE (.mk op v rel col n s l) with
  | false =>
    have HQ := Lib.hid hs
    rw [hs] at he
    clear hs
    subst he
    go_wp2_with fail
    refine bodyPost_ret (v := .bool false) (by simp [results, Tryd.results22, go_sem]) rfl ⟨by rw [HQ.out, Bool.false_and], HBY.out⟩
  | true =>
    have HP := Lib.hid (rightE_parts hs)
    have HQ := Lib.hid hs
    rw [hs] at he
    clear hs
    subst he
    go_wp2_with fail
    refine (rsafe_any _ _ (Nat.le_refl _) HP.out.1 _ _ HXY.out).mono ?_
    rintro e Z ⟨rfl, hbZ⟩
    have HBZ := Lib.hid (HBY.out.trans (hbZ.mono HBY.out.size))
    clear hbZ lt c0 c1 c2 c3 c4 c5 c6 c7 c8
    go_wp2_with fail
    refine bodyPost_ret (v := .bool (Ex.safe (.mk op v rel col n s l))) (by simp [results, Tryd.results22, go_sem]) rfl ⟨by rw [HQ.out, Bool.true_and], HBZ.out⟩

end Go.Proofs.YthdnbcdcfaocmaaDoor
