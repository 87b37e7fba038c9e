/- The reference: the tables an expression speaks of (tables, Tables). The reference: two expressions, part by part (same): where the heads differ. The reference: two expressions, part by part (same): where the heads are the same; Same. The reference: whether two expressions are right and the same (Same). -/
import Derived.Test.YtiidfghdmaipoaaDoorExD
import Derived.StillTailTactics
namespace Go.Proofs.YtiidfghdmaipoaaDoor
open Go.RowKit
set_option maxRecDepth 100000

theorem bits_or_nat {a b : Nat} (ha : a < 65536) (hb : b < 65536) : bits .or .i64 (a : Int) (b : Int) = ((a ||| b : Nat) : Int) := by
  have h : a ||| b < 2 ^ 16 := Nat.or_lt_two_pow (by omega) (by omega)
  change IntKind.wrap .i64 ((BitVec.ofInt 64 (a : Int) ||| BitVec.ofInt 64 (b : Int)).toNat : Int) = _
  rw [BitVec.ofInt_natCast, BitVec.ofInt_natCast, BitVec.toNat_or, BitVec.toNat_ofNat, BitVec.toNat_ofNat, Nat.mod_eq_of_lt (by omega), Nat.mod_eq_of_lt (by omega)]
  rw [IntKind.wrap_i64]
  try unfold wrap64
  omega
theorem rel_ok {op : Int} {v : Val} {rel col n : Int} {s : ByteArray} {len : Nat} (h : headOk op v rel col n s len = true) (h2 : op = 2) : 0 ≤ rel ∧ rel ≤ 15 := by
  obtain ⟨_, _, _, h⟩ := head_parts h
  rcases h with ⟨h1, _⟩ | ⟨_, ⟨_, h1⟩ | ⟨h1, _⟩ | h1⟩
  · omega
  · exact ⟨h1.1, h1.2.1⟩
  · omega
  · omega
theorem op_two {op : Int} {v : Val} {rel col n : Int} {s : ByteArray} {len : Nat} (h : headOk op v rel col n s len = true) (hl : 0 < len) : op ≠ 2 := by
  rintro rfl
  have := (head_parts h).1
  have h2 : wantsOf 2 = 0 := rfl
  rw [h2] at this
  omega
mutual
theorem tabs_lt : ∀ (x : Ex), x.okAll = true → x.tabs < 65536
  | .mk op v rel col n s l, h => by
    rw [Ex.okAll, Bool.and_eq_true] at h
    have h1 := tabsL_lt l h.2
    rw [Ex.tabs]
    have h2 : (if op = 2 then 2 ^ rel.toNat else 0) < 2 ^ 16 := by
      split
      · rename_i e
        have := rel_ok h.1 e
        exact Nat.pow_lt_pow_right (by omega) (by omega)
      · omega
    exact Nat.or_lt_two_pow (n := 16) h2 h1
theorem tabsL_lt : ∀ (l : List Ex), okL l = true → tabsL l < 65536
  | [], _ => by rw [tabsL]; omega
  | x :: r, h => by
    rw [okL, Bool.and_eq_true] at h
    rw [tabsL]
    exact Nat.or_lt_two_pow (n := 16) (tabs_lt x h.1) (tabsL_lt r h.2)
end
theorem pow_in {rel : Int} (h : rel ≤ 15) : wrap64 (2 ^ rel.toNat) = 2 ^ rel.toNat := by
  have h2 : 2 ^ rel.toNat < 2 ^ 16 := Nat.pow_lt_pow_right (by omega) (by omega)
  have e : (2 : Int) ^ rel.toNat = ((2 ^ rel.toNat : Nat) : Int) := by simp
  rw [e]
  generalize 2 ^ rel.toNat = m at h2 ⊢
  clear e
  unfold wrap64
  omega
theorem tabs_ref {v : Val} {rel col n : Int} {s : ByteArray} : ((Ex.mk 2 v rel col n s []).tabs : Int) = 2 ^ rel.toNat := by
  rw [Ex.tabs, if_pos rfl, tabsL, Nat.or_zero]
  simp
theorem tabs_other {op : Int} {v : Val} {rel col n : Int} {s : ByteArray} {l : List Ex} (h : op ≠ 2) : (Ex.mk op v rel col n s l).tabs = tabsL l := by
  rw [Ex.tabs, if_neg h, Nat.zero_or]

set_option maxHeartbeats 8000000 in
theorem rtables_zero (op : Int) (v : Val) (rel col n : Int) (s : ByteArray) (q : Option Addr) (c : Nat) (w : World) (hh : headOk op v rel col n s ([] : List Ex).length = true) : Calls Tryd.prog 39 #[.agg (exCells op v rel col n s q ([] : List Ex).length c).toArray] w fun e w' => e = .returned (.int .i64 ((Ex.mk op v rel col n s []).tabs : Int)) ∧ Below w.heap.size w w' := by
  have H2 := Lib.hid (rel_ok hh)
  clear hh
  simp only [List.length_nil]
  have E0 := EB.new w op v rel col n s q 0 c 26
  have B0 : Below w.heap.size w (w.alloc (.cells (exCells op v rel col n s q 0 c).toArray 26)) := ext_alloc (ext_refl _) _
  obtain ⟨W, hW⟩ : ∃ W, W = w.alloc (.cells (exCells op v rel col n s q 0 c).toArray 26) := ⟨_, rfl⟩
  rw [← hW] at E0 B0
  go_enter Tryd.func39, Tryd.ntmps39
  go_upto_region 1 with fail
  rw [← hW]
  clear hW
  obtain ⟨g, hg⟩ : ∃ g, g = w.heap.size := ⟨_, rfl⟩
  have HB := Lib.hid B0
  rw [← hg] at E0
  rw [← hg]
  clear B0 hg
  have HE := Lib.hid E0
  obtain ⟨lt, c0, c1, c2, c3, c4, c5, c6, c7, c8⟩ := E0
  by_cases e2 : op = 2
  · have hr := H2.out e2
    have HS := Lib.hid (show ((Ex.mk op v rel col n s []).tabs : Int) = 2 ^ rel.toNat by rw [e2]; exact tabs_ref)
    obtain ⟨hr1, hr2⟩ := hr
    have HW := Lib.hid (pow_in hr2)
    have qop2 : (op == 2) = true := by rw [beq_iff_eq]; exact e2
    clear e2
    go_wp2_with fail
    clear hr1 hr2
    refine wp_loop_rounds 1 ?_
    rw [rounds_succ]
    go_wp2_with fail
    refine bodyPost_ret (v := .int .i64 (wrap64 (2 ^ rel.toNat))) (by simp [results, Tryd.results39, go_sem]) rfl ⟨by rw [HS.out, HW.out], HB.out⟩
  · have HS := Lib.hid (show (Ex.mk op v rel col n s []).tabs = 0 by rw [tabs_other e2, tabsL])
    have qop2 : (op == 2) = false := by rw [beq_eq_false_iff_ne]; exact e2
    clear e2
    go_wp2_with fail
    refine wp_loop_rounds 1 ?_
    rw [rounds_succ]
    go_wp2_with fail
    refine bodyPost_ret (v := .int .i64 0) (by simp [results, Tryd.results39, go_sem]) rfl ⟨by rw [HS.out]; rfl, HB.out⟩

set_option maxHeartbeats 8000000 in
theorem rtables_one (op : Int) (v : Val) (rel col n : Int) (s : ByteArray) (x : Ex) (q : Option Addr) (c : Nat) (w : World) (hl : ExL w q 0 [x]) (IHx : ∀ (cs : List Value) (w : World), ExM w x cs → Calls Tryd.prog 39 #[.agg cs.toArray] w fun e w' => e = .returned (.int .i64 (x.tabs : Int)) ∧ Below w.heap.size w w') (hh : headOk op v rel col n s ([x] : List Ex).length = true) (okx : x.okAll = true) : Calls Tryd.prog 39 #[.agg (exCells op v rel col n s q ([x] : List Ex).length c).toArray] w fun e w' => e = .returned (.int .i64 ((Ex.mk op v rel col n s [x]).tabs : Int)) ∧ Below w.heap.size w w' := by
  have e2 := op_two hh (by simp)
  have HS := Lib.hid (show (Ex.mk op v rel col n s [x]).tabs = x.tabs by rw [tabs_other e2, tabsL, tabsL, Nat.or_zero])
  have qop2 : (op == 2) = false := by rw [beq_eq_false_iff_ne]; exact e2
  clear e2
  have hbo : bits .or .i64 0 (x.tabs : Int) = (x.tabs : Int) := (bits_or_nat (a := 0) (by omega) (tabs_lt x okx)).trans (by rw [Nat.zero_or])
  clear hh okx
  generalize x.tabs = t1 at HS hbo IHx
  have HL := Lib.hid hl
  clear hl
  have HIx := Lib.hid IHx
  clear IHx
  simp only [List.length_cons, List.length_nil, Nat.zero_add]
  have E0 := EB.new w op v rel col n s q 1 c 26
  have B0 : Below w.heap.size w (w.alloc (.cells (exCells op v rel col n s q 1 c).toArray 26)) := ext_alloc (ext_refl _) _
  obtain ⟨W, hW⟩ : ∃ W, W = w.alloc (.cells (exCells op v rel col n s q 1 c).toArray 26) := ⟨_, rfl⟩
  rw [← hW] at E0 B0
  go_enter Tryd.func39, Tryd.ntmps39
  go_upto_region 1 with fail
  rw [← hW]
  clear hW
  obtain ⟨g, hg⟩ : ∃ g, g = w.heap.size := ⟨_, rfl⟩
  have HB := Lib.hid B0
  rw [← hg] at E0
  rw [← hg]
  clear B0 hg
  have HE := Lib.hid E0
  obtain ⟨lt, c0, c1, c2, c3, c4, c5, c6, c7, c8⟩ := E0
  have hl_0 := ExL.ext HB.out _ _ _ HL.out
  have hl_ := ExL.at_ (j := 0) (x := x) hl_0 rfl
  obtain ⟨g0, off0, cs0, hq0, hg0, hx0, hcell⟩ := hl_
  subst hq0
  have HX0 := Lib.hid hx0
  obtain ⟨op1, v1, rel1, col1, n1, s1, l1⟩ := x
  rw [ExM.iff] at hx0
  obtain ⟨-, qq0, cc0, rfl, -, -⟩ := hx0
  have f0 := hcell 0 _ rfl
  have f1 := hcell 1 _ rfl
  have f2 := hcell 2 _ rfl
  have f3 := hcell 3 _ rfl
  have f4 := hcell 4 _ rfl
  have f5 := hcell 5 _ rfl
  have f6 := hcell 6 _ rfl
  have f7 := hcell 7 _ rfl
  have f8 := hcell 8 _ rfl
  simp only [Nat.zero_mul, Nat.add_zero] at f0 f1 f2 f3 f4 f5 f6 f7 f8
  clear hcell
  clear hl_0
  go_wp2_with fail
  refine wp_loop_rounds 2 ?_
  rw [rounds_succ]
  go_wp2_with fail
  refine (HIx.out _ _ HX0.out).mono ?_
  rintro e Y ⟨rfl, hbY⟩
  have HBY := Lib.hid (HB.out.trans (hbY.mono HB.out.size))
  have EY := HE.out.on hbY
  clear hbY
  clear f0 f1 f2 f3 f4 f5 f6 f7 f8 c0 c1 c2 c3 c4 c5 c6 c7 c8 lt
  obtain ⟨lt, c0, c1, c2, c3, c4, c5, c6, c7, c8⟩ := EY
  go_wp2_with fail
  rw [rounds_succ]
  go_wp2_with fail
  refine bodyPost_ret (v := .int .i64 (t1 : Int)) (by simp [results, Tryd.results39, go_sem]) rfl ⟨by rw [HS.out], HBY.out⟩

set_option maxHeartbeats 8000000 in
theorem rtables_two (op : Int) (v : Val) (rel col n : Int) (s : ByteArray) (x : Ex) (y : Ex) (q : Option Addr) (c : Nat) (w : World) (hl : ExL w q 0 [x, y]) (IHx : ∀ (cs : List Value) (w : World), ExM w x cs → Calls Tryd.prog 39 #[.agg cs.toArray] w fun e w' => e = .returned (.int .i64 (x.tabs : Int)) ∧ Below w.heap.size w w') (IHy : ∀ (cs : List Value) (w : World), ExM w y cs → Calls Tryd.prog 39 #[.agg cs.toArray] w fun e w' => e = .returned (.int .i64 (y.tabs : Int)) ∧ Below w.heap.size w w') (hh : headOk op v rel col n s ([x, y] : List Ex).length = true) (okx : x.okAll = true) (oky : y.okAll = true) : Calls Tryd.prog 39 #[.agg (exCells op v rel col n s q ([x, y] : List Ex).length c).toArray] w fun e w' => e = .returned (.int .i64 ((Ex.mk op v rel col n s [x, y]).tabs : Int)) ∧ Below w.heap.size w w' := by
  have e2 := op_two hh (by simp)
  have HS := Lib.hid (show (Ex.mk op v rel col n s [x, y]).tabs = x.tabs ||| y.tabs by rw [tabs_other e2, tabsL, tabsL, tabsL, Nat.or_zero])
  have qop2 : (op == 2) = false := by rw [beq_eq_false_iff_ne]; exact e2
  clear e2
  have hbo : bits .or .i64 0 (x.tabs : Int) = (x.tabs : Int) := (bits_or_nat (a := 0) (by omega) (tabs_lt x okx)).trans (by rw [Nat.zero_or])
  have hbp : bits .or .i64 (x.tabs : Int) (y.tabs : Int) = ((x.tabs ||| y.tabs : Nat) : Int) := bits_or_nat (tabs_lt x okx) (tabs_lt y oky)
  clear hh okx oky
  generalize x.tabs ||| y.tabs = t3 at HS hbp
  generalize x.tabs = t1 at hbo hbp IHx
  generalize y.tabs = t2 at hbp IHy
  have HL := Lib.hid hl
  clear hl
  have HIx := Lib.hid IHx
  clear IHx
  have HIy := Lib.hid IHy
  clear IHy
  simp only [List.length_cons, List.length_nil, Nat.zero_add]
  have E0 := EB.new w op v rel col n s q 2 c 26
  have B0 : Below w.heap.size w (w.alloc (.cells (exCells op v rel col n s q 2 c).toArray 26)) := ext_alloc (ext_refl _) _
  obtain ⟨W, hW⟩ : ∃ W, W = w.alloc (.cells (exCells op v rel col n s q 2 c).toArray 26) := ⟨_, rfl⟩
  rw [← hW] at E0 B0
  go_enter Tryd.func39, Tryd.ntmps39
  go_upto_region 1 with fail
  rw [← hW]
  clear hW
  obtain ⟨g, hg⟩ : ∃ g, g = w.heap.size := ⟨_, rfl⟩
  have HB := Lib.hid B0
  rw [← hg] at E0
  rw [← hg]
  clear B0 hg
  have HE := Lib.hid E0
  obtain ⟨lt, c0, c1, c2, c3, c4, c5, c6, c7, c8⟩ := E0
  have hl_0 := ExL.ext HB.out _ _ _ HL.out
  have HLW := Lib.hid hl_0
  have hl_ := ExL.at_ (j := 0) (x := x) hl_0 rfl
  obtain ⟨g0, off0, cs0, hq0, hg0, hx0, hcell⟩ := hl_
  subst hq0
  have HX0 := Lib.hid hx0
  obtain ⟨op1, v1, rel1, col1, n1, s1, l1⟩ := x
  rw [ExM.iff] at hx0
  obtain ⟨-, qq0, cc0, rfl, -, -⟩ := hx0
  have f0 := hcell 0 _ rfl
  have f1 := hcell 1 _ rfl
  have f2 := hcell 2 _ rfl
  have f3 := hcell 3 _ rfl
  have f4 := hcell 4 _ rfl
  have f5 := hcell 5 _ rfl
  have f6 := hcell 6 _ rfl
  have f7 := hcell 7 _ rfl
  have f8 := hcell 8 _ rfl
  simp only [Nat.zero_mul, Nat.add_zero] at f0 f1 f2 f3 f4 f5 f6 f7 f8
  clear hcell
  clear hl_0
  go_wp2_with fail
  refine wp_loop_rounds 3 ?_
  rw [rounds_succ]
  go_wp2_with fail
  refine (HIx.out _ _ HX0.out).mono ?_
  rintro e Y ⟨rfl, hbY⟩
  have HBY := Lib.hid (HB.out.trans (hbY.mono HB.out.size))
  have EY := HE.out.on hbY
  have HLY := Lib.hid (ExL.ext hbY _ _ _ HLW.out)
  clear hbY
  clear f0 f1 f2 f3 f4 f5 f6 f7 f8 c0 c1 c2 c3 c4 c5 c6 c7 c8 lt
  have HEY := Lib.hid EY
  obtain ⟨lt, c0, c1, c2, c3, c4, c5, c6, c7, c8⟩ := EY
  go_wp2_with fail
  have hl_ := ExL.at_ (j := 1) (x := y) HLY.out rfl
  obtain ⟨g1, off1, cs1, hq1, hg1, hx1, hcell⟩ := hl_
  obtain ⟨rfl, rfl⟩ : g1 = g0 ∧ off1 = off0 := by cases hq1; exact ⟨rfl, rfl⟩
  clear hq1
  have HX1 := Lib.hid hx1
  obtain ⟨op2, v2, rel2, col2, n2, s2, l2⟩ := y
  rw [ExM.iff] at hx1
  obtain ⟨-, qq1, cc1, rfl, -, -⟩ := hx1
  have f0 := hcell 0 _ rfl
  have f1 := hcell 1 _ rfl
  have f2 := hcell 2 _ rfl
  have f3 := hcell 3 _ rfl
  have f4 := hcell 4 _ rfl
  have f5 := hcell 5 _ rfl
  have f6 := hcell 6 _ rfl
  have f7 := hcell 7 _ rfl
  have f8 := hcell 8 _ rfl
  clear hcell
  rw [rounds_succ]
  go_wp2_with fail
  refine (HIy.out _ _ HX1.out).mono ?_
  rintro e Z ⟨rfl, hbZ⟩
  have HBZ := Lib.hid (HBY.out.trans (hbZ.mono HBY.out.size))
  have EZ := HEY.out.on hbZ
  clear hbZ
  clear f0 f1 f2 f3 f4 f5 f6 f7 f8 c0 c1 c2 c3 c4 c5 c6 c7 c8 lt
  obtain ⟨lt, c0, c1, c2, c3, c4, c5, c6, c7, c8⟩ := EZ
  go_wp2_with fail
  rw [rounds_succ]
  go_wp2_with fail
  refine bodyPost_ret (v := .int .i64 (t3 : Int)) (by simp [results, Tryd.results39, go_sem]) rfl ⟨by rw [HS.out], HBZ.out⟩

theorem rtables_any : ∀ (k : Nat) (x : Ex), x.deep ≤ k → x.okAll = true → ∀ (cs : List Value) (w : World), ExM w x cs → Calls Tryd.prog 39 #[.agg cs.toArray] w fun e w' => e = .returned (.int .i64 (x.tabs : Int)) ∧ Below w.heap.size w w'
  | 0, x, h, _, _, _, _ => absurd h (by have := deep_pos x; omega)
  | k + 1, .mk op v rel col n s l, hd, hok, cs, w, h => by
    rw [ExM.iff] at h
    obtain ⟨-, q, c, rfl, -, hl⟩ := h
    rw [Ex.okAll, Bool.and_eq_true] at hok
    rw [Ex.deep] at hd
    match l, hl, hok, hd with
    | [], _, hok, _ => exact rtables_zero op v rel col n s q c w hok.1
    | [x], hl, hok, hd =>
      have hx : okL [x] = true := hok.2
      rw [okL, okL, Bool.and_true] at hx
      rw [deepL, deepL] at hd
      exact rtables_one op v rel col n s x q c w hl (rtables_any k x (by omega) hx) hok.1 hx
    | [x, y], hl, hok, hd =>
      have hx : okL [x, y] = true := hok.2
      rw [okL, okL, okL, Bool.and_true, Bool.and_eq_true] at hx
      rw [deepL, deepL, deepL] at hd
      exact rtables_two op v rel col n s x y q c w hl (rtables_any k x (by omega) hx.1) (rtables_any k y (by omega) hx.2) hok.1 hx.1 hx.2
    | _ :: _ :: _ :: r, _, hok, _ =>
      have := head_two hok.1
      simp only [List.length_cons] at this
      omega

def tablesE (x : Ex) : Nat := bif rightE x then x.tabs else 0
set_option maxHeartbeats 4000000 in
theorem tablesE_any (x : Ex) (cs : List Value) (w : World) (h : ExM w x cs) : Calls Tryd.prog 17 #[.agg cs.toArray] w fun e w' => e = .returned (.int .i64 (tablesE x : Int)) ∧ Below w.heap.size w w' := by
  obtain ⟨op, v, rel, col, n, s, l⟩ := x
  have hx := h
  rw [ExM.iff] at h
  obtain ⟨-, q, c, rfl, -, -⟩ := h
  have E0 := EB.new w op v rel col n s q l.length c 26
  have B0 : Below w.heap.size w (w.alloc (.cells (exCells op v rel col n s q l.length c).toArray 26)) := ext_alloc (ext_refl _) _
  have HX := Lib.hid (ExM.ext B0 _ _ hx)
  obtain ⟨W, hW⟩ : ∃ W, W = w.alloc (.cells (exCells op v rel col n s q l.length c).toArray 26) := ⟨_, rfl⟩
  rw [← hW] at E0 B0 HX
  have H := Lib.hid (rightE_any _ _ _ HX.out)
  go_enter Tryd.func17, Tryd.ntmps17
  go_upto_region 1 with fail
  rw [← hW]
  clear hW hx
  obtain ⟨g, hg⟩ : ∃ g, g = w.heap.size := ⟨_, rfl⟩
  have HB := Lib.hid B0
  rw [← hg] at E0
  rw [← hg]
  clear B0 hg
  have HE := Lib.hid E0
  obtain ⟨lt, c0, c1, c2, c3, c4, c5, c6, c7, c8⟩ := E0
  go_wp2_with fail
  refine H.out.mono ?_
  rintro e Y ⟨he, hbY⟩
  have HBY := Lib.hid (HB.out.trans (hbY.mono HB.out.size))
  have EY := HE.out.on hbY
  have HXY := Lib.hid (ExM.ext hbY _ _ HX.out)
  clear hbY lt c0 c1 c2 c3 c4 c5 c6 c7 c8
  obtain ⟨lt, c0, c1, c2, c3, c4, c5, c6, c7, c8⟩ := EY
  cases hs : rightE (.mk op v rel col n s l) with
  | false =>
    have HQ := Lib.hid hs
    rw [hs] at he
    clear hs
    subst he
    go_wp2_with fail
    refine bodyPost_ret (v := .int .i64 0) (by simp [results, Tryd.results17, go_sem]) rfl ⟨by rw [tablesE, HQ.out]; rfl, HBY.out⟩
  | true =>
    have HP := Lib.hid (rightE_parts hs)
    have HQ := Lib.hid hs
    rw [hs] at he
    clear hs
    subst he
    go_wp2_with fail
    refine (rtables_any _ _ (Nat.le_refl _) HP.out.1 _ _ HXY.out).mono ?_
    rintro e Z ⟨rfl, hbZ⟩
    have HBZ := Lib.hid (HBY.out.trans (hbZ.mono HBY.out.size))
    clear hbZ lt c0 c1 c2 c3 c4 c5 c6 c7 c8
    go_wp2_with fail
    refine bodyPost_ret (v := .int .i64 (Ex.tabs (.mk op v rel col n s l) : Nat)) (by simp [results, Tryd.results17, go_sem]) rfl ⟨by rw [tablesE, HQ.out]; rfl, HBZ.out⟩

end Go.Proofs.YtiidfghdmaipoaaDoor

namespace Go.Proofs.YtiidfghdmaipoaaDoor
open Go.RowKit
set_option maxRecDepth 100000

set_option maxHeartbeats 8000000 in
theorem rsame_head (opa : Int) (va : Val) (rela cola na : Int) (sa : ByteArray) (qa : Option Addr) (lena ca : Nat) (opb : Int) (vb : Val) (relb colb nb : Int) (sb : ByteArray) (qb : Option Addr) (lenb cb : Nat) (w : World)
    (hne : opa ≠ opb ∨ (va.k == vb.k && va.n == vb.n && va.s.toList == vb.s.toList) = false ∨ rela ≠ relb ∨ cola ≠ colb ∨ na ≠ nb ∨ lena ≠ lenb) :
    Calls Tryd.prog 35 #[.agg (exCells opa va rela cola na sa qa lena ca).toArray, .agg (exCells opb vb relb colb nb sb qb lenb cb).toArray] w fun e w' => e = .returned (.bool false) ∧ Below w.heap.size w w' := by
  have hne := Lib.hid hne
  have A0 := EB.new w opa va rela cola na sa qa lena ca 26
  have B0 : Below w.heap.size w (w.alloc (.cells (exCells opa va rela cola na sa qa lena ca).toArray 26)) := ext_alloc (ext_refl _) _
  obtain ⟨V, hV⟩ : ∃ V, V = w.alloc (.cells (exCells opa va rela cola na sa qa lena ca).toArray 26) := ⟨_, rfl⟩
  rw [← hV] at A0 B0
  have A1 := EB.new V opb vb relb colb nb sb qb lenb cb 26
  have B1 : Below V.heap.size V (V.alloc (.cells (exCells opb vb relb colb nb sb qb lenb cb).toArray 26)) := ext_alloc (ext_refl _) _
  obtain ⟨W, hW⟩ : ∃ W, W = V.alloc (.cells (exCells opb vb relb colb nb sb qb lenb cb).toArray 26) := ⟨_, rfl⟩
  rw [← hW] at A1 B1
  have A2 := A0.on B1
  have HB := Lib.hid (B0.trans (B1.mono B0.size))
  have hz : V.heap.size = w.heap.size + 1 := by rw [hV]; simp
  have hn := Tryd.neqVal5 va vb
  clear A0 B0 B1
  go_enter Tryd.func35, Tryd.ntmps35
  go_upto_region 1 with fail
  rw [← hV, ← hW]
  rw [hz] at A1
  clear hV hW hz V
  obtain ⟨g, hg⟩ : ∃ g, g = w.heap.size := ⟨_, rfl⟩
  rw [← hg] at A1 A2
  rw [← hg]
  clear hg
  obtain ⟨lt, c0, c1, c2, c3, c4, c5, c6, c7, c8⟩ := A2
  obtain ⟨lt', d0, d1, d2, d3, d4, d5, d6, d7, d8⟩ := A1
  rcases Classical.em (opa = opb) with eop | eop
  · have HEop := Lib.hid eop
    have ropa : (opa != opb) = false := by rw [bne, beq_iff_eq.mpr eop]; rfl
    clear eop
    cases e2 : (va.k == vb.k && va.n == vb.n && va.s.toList == vb.s.toList)
    · clear hne
      rw [e2] at hn
      clear e2
      go_wp2_with fail
      refine bodyPost_ret (v := .bool false) (by simp [results, Tryd.results35, go_sem]) rfl ⟨rfl, HB.out⟩
    · rw [e2] at hn
      have HE2 := Lib.hid e2
      clear e2
      rcases Classical.em (rela = relb) with erel | erel
      · have HErel := Lib.hid erel
        have rrela : (rela != relb) = false := by rw [bne, beq_iff_eq.mpr erel]; rfl
        clear erel
        rcases Classical.em (cola = colb) with ecol | ecol
        · have HEcol := Lib.hid ecol
          have rcola : (cola != colb) = false := by rw [bne, beq_iff_eq.mpr ecol]; rfl
          clear ecol
          rcases Classical.em (na = nb) with en | en
          · have HEn := Lib.hid en
            have rna : (na != nb) = false := by rw [bne, beq_iff_eq.mpr en]; rfl
            clear en
            have elen : lena ≠ lenb := by
              rcases hne.out with h | h | h | h | h | h
              · exact absurd HEop.out h
              · rw [HE2.out] at h; cases h
              · exact absurd HErel.out h
              · exact absurd HEcol.out h
              · exact absurd HEn.out h
              · exact h
            have rlen : ((lena : Int) != (lenb : Int)) = true := by rw [bne, beq_eq_false_iff_ne.mpr (by omega)]; rfl
            clear hne elen
            go_wp2_with fail
            refine bodyPost_ret (v := .bool false) (by simp [results, Tryd.results35, go_sem]) rfl ⟨rfl, HB.out⟩
          · have rna : (na != nb) = true := by rw [bne, beq_eq_false_iff_ne.mpr en]; rfl
            clear en hne
            go_wp2_with fail
            refine bodyPost_ret (v := .bool false) (by simp [results, Tryd.results35, go_sem]) rfl ⟨rfl, HB.out⟩
        · have rcola : (cola != colb) = true := by rw [bne, beq_eq_false_iff_ne.mpr ecol]; rfl
          clear ecol hne
          go_wp2_with fail
          refine bodyPost_ret (v := .bool false) (by simp [results, Tryd.results35, go_sem]) rfl ⟨rfl, HB.out⟩
      · have rrela : (rela != relb) = true := by rw [bne, beq_eq_false_iff_ne.mpr erel]; rfl
        clear erel hne
        go_wp2_with fail
        refine bodyPost_ret (v := .bool false) (by simp [results, Tryd.results35, go_sem]) rfl ⟨rfl, HB.out⟩
  · have ropa : (opa != opb) = true := by rw [bne, beq_eq_false_iff_ne.mpr eop]; rfl
    clear eop hne
    go_wp2_with fail
    refine bodyPost_ret (v := .bool false) (by simp [results, Tryd.results35, go_sem]) rfl ⟨rfl, HB.out⟩

end Go.Proofs.YtiidfghdmaipoaaDoor

namespace Go.Proofs.YtiidfghdmaipoaaDoor
open Go.RowKit
set_option maxRecDepth 100000

theorem same_in {op : Int} {va vb : Val} {rel col n : Int} {sa sb : ByteArray} {l m : List Ex} (hv : (va.k == vb.k && va.n == vb.n && va.s.toList == vb.s.toList) = true) : sameE (.mk op va rel col n sa l) (.mk op vb rel col n sb m) = sameL l m := by
  rw [sameE, hv]
  simp

set_option maxHeartbeats 8000000 in
theorem rsame_zero (op : Int) (va : Val) (rel col n : Int) (sa : ByteArray) (qa : Option Addr) (ca : Nat) (vb : Val) (sb : ByteArray) (qb : Option Addr) (cb : Nat) (w : World) (hv : (va.k == vb.k && va.n == vb.n && va.s.toList == vb.s.toList) = true) :
    Calls Tryd.prog 35 #[.agg (exCells op va rel col n sa qa ([] : List Ex).length ca).toArray, .agg (exCells op vb rel col n sb qb ([] : List Ex).length cb).toArray] w fun e w' => e = .returned (.bool (sameE (.mk op va rel col n sa []) (.mk op vb rel col n sb []))) ∧ Below w.heap.size w w' := by
  have HS := Lib.hid (same_in (op := op) (rel := rel) (col := col) (n := n) (sa := sa) (sb := sb) (l := []) (m := []) hv)
  simp only [List.length_nil]
  have A0 := EB.new w op va rel col n sa qa 0 ca 26
  have B0 : Below w.heap.size w (w.alloc (.cells (exCells op va rel col n sa qa 0 ca).toArray 26)) := ext_alloc (ext_refl _) _
  obtain ⟨V, hV⟩ : ∃ V, V = w.alloc (.cells (exCells op va rel col n sa qa 0 ca).toArray 26) := ⟨_, rfl⟩
  rw [← hV] at A0 B0
  have A1 := EB.new V op vb rel col n sb qb 0 cb 26
  have B1 : Below V.heap.size V (V.alloc (.cells (exCells op vb rel col n sb qb 0 cb).toArray 26)) := ext_alloc (ext_refl _) _
  obtain ⟨W, hW⟩ : ∃ W, W = V.alloc (.cells (exCells op vb rel col n sb qb 0 cb).toArray 26) := ⟨_, rfl⟩
  rw [← hW] at A1 B1
  have A2 := A0.on B1
  have HB := Lib.hid (B0.trans (B1.mono B0.size))
  have hz : V.heap.size = w.heap.size + 1 := by rw [hV]; simp
  have hn := Tryd.neqVal5 va vb
  rw [hv] at hn
  clear A0 B0 B1 hv
  go_enter Tryd.func35, Tryd.ntmps35
  go_upto_region 1 with fail
  rw [← hV, ← hW]
  rw [hz] at A1
  clear hV hW hz V
  obtain ⟨g, hg⟩ : ∃ g, g = w.heap.size := ⟨_, rfl⟩
  rw [← hg] at A1 A2
  rw [← hg]
  clear hg
  have HA := Lib.hid A2
  have HC := Lib.hid A1
  obtain ⟨lt, c0, c1, c2, c3, c4, c5, c6, c7, c8⟩ := A2
  obtain ⟨lt', d0, d1, d2, d3, d4, d5, d6, d7, d8⟩ := A1
  go_wp2_with fail
  refine wp_loop_rounds 1 ?_
  rw [rounds_succ]
  go_wp2_with fail
  refine bodyPost_ret (v := .bool true) (by simp [results, Tryd.results35, go_sem]) rfl ⟨by rw [HS.out, sameL], HB.out⟩

set_option maxHeartbeats 8000000 in
theorem rsame_one (op : Int) (va : Val) (rel col n : Int) (sa : ByteArray) (qa : Option Addr) (ca : Nat) (vb : Val) (sb : ByteArray) (qb : Option Addr) (cb : Nat) (x0 y0 : Ex) (w : World) (hv : (va.k == vb.k && va.n == vb.n && va.s.toList == vb.s.toList) = true) (hl : ExL w qa 0 [x0]) (hm : ExL w qb 0 [y0]) (IH0 : ∀ (cs ds : List Value) (w : World), ExM w x0 cs → ExM w y0 ds → Calls Tryd.prog 35 #[.agg cs.toArray, .agg ds.toArray] w fun e w' => e = .returned (.bool (sameE x0 y0)) ∧ Below w.heap.size w w') :
    Calls Tryd.prog 35 #[.agg (exCells op va rel col n sa qa ([x0] : List Ex).length ca).toArray, .agg (exCells op vb rel col n sb qb ([y0] : List Ex).length cb).toArray] w fun e w' => e = .returned (.bool (sameE (.mk op va rel col n sa [x0]) (.mk op vb rel col n sb [y0]))) ∧ Below w.heap.size w w' := by
  have HS := Lib.hid (same_in (op := op) (rel := rel) (col := col) (n := n) (sa := sa) (sb := sb) (l := [x0]) (m := [y0]) hv)
  have HL := Lib.hid hl
  have HM := Lib.hid hm
  clear hl hm
  have HI0 := Lib.hid IH0
  clear IH0
  simp only [List.length_cons, List.length_nil, Nat.zero_add]
  have A0 := EB.new w op va rel col n sa qa 1 ca 26
  have B0 : Below w.heap.size w (w.alloc (.cells (exCells op va rel col n sa qa 1 ca).toArray 26)) := ext_alloc (ext_refl _) _
  obtain ⟨V, hV⟩ : ∃ V, V = w.alloc (.cells (exCells op va rel col n sa qa 1 ca).toArray 26) := ⟨_, rfl⟩
  rw [← hV] at A0 B0
  have A1 := EB.new V op vb rel col n sb qb 1 cb 26
  have B1 : Below V.heap.size V (V.alloc (.cells (exCells op vb rel col n sb qb 1 cb).toArray 26)) := ext_alloc (ext_refl _) _
  obtain ⟨W, hW⟩ : ∃ W, W = V.alloc (.cells (exCells op vb rel col n sb qb 1 cb).toArray 26) := ⟨_, rfl⟩
  rw [← hW] at A1 B1
  have A2 := A0.on B1
  have HB := Lib.hid (B0.trans (B1.mono B0.size))
  have hz : V.heap.size = w.heap.size + 1 := by rw [hV]; simp
  have hn := Tryd.neqVal5 va vb
  rw [hv] at hn
  clear A0 B0 B1 hv
  go_enter Tryd.func35, Tryd.ntmps35
  go_upto_region 1 with fail
  rw [← hV, ← hW]
  rw [hz] at A1
  clear hV hW hz V
  obtain ⟨g, hg⟩ : ∃ g, g = w.heap.size := ⟨_, rfl⟩
  rw [← hg] at A1 A2
  rw [← hg]
  clear hg
  have HA := Lib.hid A2
  have HC := Lib.hid A1
  obtain ⟨lt, c0, c1, c2, c3, c4, c5, c6, c7, c8⟩ := A2
  obtain ⟨lt', d0, d1, d2, d3, d4, d5, d6, d7, d8⟩ := A1
  have hl := ExL.ext HB.out _ _ _ HL.out
  have hm := ExL.ext HB.out _ _ _ HM.out
  have hl_ := ExL.at_ (j := 0) (x := x0) hl rfl
  obtain ⟨ga0, offa0, csa0, hq, hga0, hxa0, hcell⟩ := hl_
  subst hq
  have HXa0 := Lib.hid hxa0
  obtain ⟨opa1x, va1x, rela1x, cola1x, na1x, sa1x, la1x⟩ := x0
  rw [ExM.iff] at hxa0
  obtain ⟨-, qqa0, cca0, rfl, -, -⟩ := hxa0
  have f0 := hcell 0 _ rfl
  have f1 := hcell 1 _ rfl
  have f2 := hcell 2 _ rfl
  have f3 := hcell 3 _ rfl
  have f4 := hcell 4 _ rfl
  have f5 := hcell 5 _ rfl
  have f6 := hcell 6 _ rfl
  have f7 := hcell 7 _ rfl
  have f8 := hcell 8 _ rfl
  simp only [Nat.zero_mul, Nat.add_zero] at f0 f1 f2 f3 f4 f5 f6 f7 f8
  clear hcell
  have hl_ := ExL.at_ (j := 0) (x := y0) hm rfl
  obtain ⟨gb0, offb0, csb0, hq, hgb0, hxb0, hcell⟩ := hl_
  subst hq
  have HXb0 := Lib.hid hxb0
  obtain ⟨opb1x, vb1x, relb1x, colb1x, nb1x, sb1x, lb1x⟩ := y0
  rw [ExM.iff] at hxb0
  obtain ⟨-, qqb0, ccb0, rfl, -, -⟩ := hxb0
  have e0 := hcell 0 _ rfl
  have e1 := hcell 1 _ rfl
  have e2 := hcell 2 _ rfl
  have e3 := hcell 3 _ rfl
  have e4 := hcell 4 _ rfl
  have e5 := hcell 5 _ rfl
  have e6 := hcell 6 _ rfl
  have e7 := hcell 7 _ rfl
  have e8 := hcell 8 _ rfl
  simp only [Nat.zero_mul, Nat.add_zero] at e0 e1 e2 e3 e4 e5 e6 e7 e8
  clear hcell
  clear hl hm
  go_wp2_with fail
  refine wp_loop_rounds 2 ?_
  rw [rounds_succ]
  go_wp2_with fail
  go_still_tail 10, (by kernel_rfl)
  change wpList _ _ _ _ _ W.drew
  have hd0 : Below W.heap.size W W.drew := (Below.refl _ _).drew
  have Ha := ExM.ext hd0 _ _ HXa0.out
  have Hb := ExM.ext hd0 _ _ HXb0.out
  have EA := HA.out.on hd0
  have EC := HC.out.on hd0
  have BD := HB.out.trans (hd0.mono HB.out.size)
  clear hd0 f0 f1 f2 f3 f4 f5 f6 f7 f8 e0 e1 e2 e3 e4 e5 e6 e7 e8
  clear lt c0 c1 c2 c3 c4 c5 c6 c7 c8 lt' d0 d1 d2 d3 d4 d5 d6 d7 d8
  generalize W.drew = U at Ha Hb EA EC BD ⊢
  have HBD0 := Lib.hid BD
  have HEA0 := Lib.hid EA
  have HEC0 := Lib.hid EC
  clear BD EA EC
  go_wp2_with fail
  refine (HI0.out _ _ _ Ha Hb).mono ?_
  clear Ha Hb
  rintro e Y ⟨he, hbY⟩
  have HBY := Lib.hid (HBD0.out.trans (hbY.mono HBD0.out.size))
  have EA := HEA0.out.on hbY
  have EC := HEC0.out.on hbY
  clear hbY
  have HAY := Lib.hid EA
  have HCY := Lib.hid EC
  obtain ⟨lt, c0, c1, c2, c3, c4, c5, c6, c7, c8⟩ := EA
  obtain ⟨lt', d0, d1, d2, d3, d4, d5, d6, d7, d8⟩ := EC
  cases hs : sameE (.mk opa1x va1x rela1x cola1x na1x sa1x la1x) (.mk opb1x vb1x relb1x colb1x nb1x sb1x lb1x) with
  | false =>
    have HQ0 := Lib.hid hs
    rw [hs] at he
    clear hs
    subst he
    go_wp2_with fail
    refine bodyPost_ret (v := .bool false) (by simp [results, Tryd.results35, go_sem]) rfl ⟨by rw [HS.out, sameL, HQ0.out, Bool.false_and], HBY.out⟩
  | true =>
    have HQ0 := Lib.hid hs
    rw [hs] at he
    clear hs
    subst he
    go_wp2_with fail
    rw [rounds_succ]
    go_wp2_with fail
    refine bodyPost_ret (v := .bool true) (by simp [results, Tryd.results35, go_sem]) rfl ⟨by rw [HS.out, sameL, sameL, HQ0.out, Bool.true_and], HBY.out⟩

set_option maxHeartbeats 8000000 in
theorem rsame_two (op : Int) (va : Val) (rel col n : Int) (sa : ByteArray) (qa : Option Addr) (ca : Nat) (vb : Val) (sb : ByteArray) (qb : Option Addr) (cb : Nat) (x0 y0 : Ex) (x1 y1 : Ex) (w : World) (hv : (va.k == vb.k && va.n == vb.n && va.s.toList == vb.s.toList) = true) (hl : ExL w qa 0 [x0, x1]) (hm : ExL w qb 0 [y0, y1]) (IH0 : ∀ (cs ds : List Value) (w : World), ExM w x0 cs → ExM w y0 ds → Calls Tryd.prog 35 #[.agg cs.toArray, .agg ds.toArray] w fun e w' => e = .returned (.bool (sameE x0 y0)) ∧ Below w.heap.size w w') (IH1 : ∀ (cs ds : List Value) (w : World), ExM w x1 cs → ExM w y1 ds → Calls Tryd.prog 35 #[.agg cs.toArray, .agg ds.toArray] w fun e w' => e = .returned (.bool (sameE x1 y1)) ∧ Below w.heap.size w w') :
    Calls Tryd.prog 35 #[.agg (exCells op va rel col n sa qa ([x0, x1] : List Ex).length ca).toArray, .agg (exCells op vb rel col n sb qb ([y0, y1] : List Ex).length cb).toArray] w fun e w' => e = .returned (.bool (sameE (.mk op va rel col n sa [x0, x1]) (.mk op vb rel col n sb [y0, y1]))) ∧ Below w.heap.size w w' := by
  have HS := Lib.hid (same_in (op := op) (rel := rel) (col := col) (n := n) (sa := sa) (sb := sb) (l := [x0, x1]) (m := [y0, y1]) hv)
  have HL := Lib.hid hl
  have HM := Lib.hid hm
  clear hl hm
  have HI0 := Lib.hid IH0
  clear IH0
  have HI1 := Lib.hid IH1
  clear IH1
  simp only [List.length_cons, List.length_nil, Nat.zero_add]
  have A0 := EB.new w op va rel col n sa qa 2 ca 26
  have B0 : Below w.heap.size w (w.alloc (.cells (exCells op va rel col n sa qa 2 ca).toArray 26)) := ext_alloc (ext_refl _) _
  obtain ⟨V, hV⟩ : ∃ V, V = w.alloc (.cells (exCells op va rel col n sa qa 2 ca).toArray 26) := ⟨_, rfl⟩
  rw [← hV] at A0 B0
  have A1 := EB.new V op vb rel col n sb qb 2 cb 26
  have B1 : Below V.heap.size V (V.alloc (.cells (exCells op vb rel col n sb qb 2 cb).toArray 26)) := ext_alloc (ext_refl _) _
  obtain ⟨W, hW⟩ : ∃ W, W = V.alloc (.cells (exCells op vb rel col n sb qb 2 cb).toArray 26) := ⟨_, rfl⟩
  rw [← hW] at A1 B1
  have A2 := A0.on B1
  have HB := Lib.hid (B0.trans (B1.mono B0.size))
  have hz : V.heap.size = w.heap.size + 1 := by rw [hV]; simp
  have hn := Tryd.neqVal5 va vb
  rw [hv] at hn
  clear A0 B0 B1 hv
  go_enter Tryd.func35, Tryd.ntmps35
  go_upto_region 1 with fail
  rw [← hV, ← hW]
  rw [hz] at A1
  clear hV hW hz V
  obtain ⟨g, hg⟩ : ∃ g, g = w.heap.size := ⟨_, rfl⟩
  rw [← hg] at A1 A2
  rw [← hg]
  clear hg
  have HA := Lib.hid A2
  have HC := Lib.hid A1
  obtain ⟨lt, c0, c1, c2, c3, c4, c5, c6, c7, c8⟩ := A2
  obtain ⟨lt', d0, d1, d2, d3, d4, d5, d6, d7, d8⟩ := A1
  have hl := ExL.ext HB.out _ _ _ HL.out
  have hm := ExL.ext HB.out _ _ _ HM.out
  have HLW := Lib.hid hl
  have HMW := Lib.hid hm
  have hl_ := ExL.at_ (j := 0) (x := x0) hl rfl
  obtain ⟨ga0, offa0, csa0, hq, hga0, hxa0, hcell⟩ := hl_
  subst hq
  have HXa0 := Lib.hid hxa0
  obtain ⟨opa1x, va1x, rela1x, cola1x, na1x, sa1x, la1x⟩ := x0
  rw [ExM.iff] at hxa0
  obtain ⟨-, qqa0, cca0, rfl, -, -⟩ := hxa0
  have f0 := hcell 0 _ rfl
  have f1 := hcell 1 _ rfl
  have f2 := hcell 2 _ rfl
  have f3 := hcell 3 _ rfl
  have f4 := hcell 4 _ rfl
  have f5 := hcell 5 _ rfl
  have f6 := hcell 6 _ rfl
  have f7 := hcell 7 _ rfl
  have f8 := hcell 8 _ rfl
  simp only [Nat.zero_mul, Nat.add_zero] at f0 f1 f2 f3 f4 f5 f6 f7 f8
  clear hcell
  have hl_ := ExL.at_ (j := 0) (x := y0) hm rfl
  obtain ⟨gb0, offb0, csb0, hq, hgb0, hxb0, hcell⟩ := hl_
  subst hq
  have HXb0 := Lib.hid hxb0
  obtain ⟨opb1x, vb1x, relb1x, colb1x, nb1x, sb1x, lb1x⟩ := y0
  rw [ExM.iff] at hxb0
  obtain ⟨-, qqb0, ccb0, rfl, -, -⟩ := hxb0
  have e0 := hcell 0 _ rfl
  have e1 := hcell 1 _ rfl
  have e2 := hcell 2 _ rfl
  have e3 := hcell 3 _ rfl
  have e4 := hcell 4 _ rfl
  have e5 := hcell 5 _ rfl
  have e6 := hcell 6 _ rfl
  have e7 := hcell 7 _ rfl
  have e8 := hcell 8 _ rfl
  simp only [Nat.zero_mul, Nat.add_zero] at e0 e1 e2 e3 e4 e5 e6 e7 e8
  clear hcell
  clear hl hm
  go_wp2_with fail
  refine wp_loop_rounds 3 ?_
  rw [rounds_succ]
  go_wp2_with fail
  go_still_tail 10, (by kernel_rfl)
  change wpList _ _ _ _ _ W.drew
  have hd0 : Below W.heap.size W W.drew := (Below.refl _ _).drew
  have Ha := ExM.ext hd0 _ _ HXa0.out
  have Hb := ExM.ext hd0 _ _ HXb0.out
  have EA := HA.out.on hd0
  have EC := HC.out.on hd0
  have KL := ExL.ext hd0 _ _ _ HLW.out
  have KM := ExL.ext hd0 _ _ _ HMW.out
  have BD := HB.out.trans (hd0.mono HB.out.size)
  clear hd0 f0 f1 f2 f3 f4 f5 f6 f7 f8 e0 e1 e2 e3 e4 e5 e6 e7 e8
  clear lt c0 c1 c2 c3 c4 c5 c6 c7 c8 lt' d0 d1 d2 d3 d4 d5 d6 d7 d8
  generalize W.drew = U at Ha Hb EA EC BD KL KM ⊢
  have HBD0 := Lib.hid BD
  have HEA0 := Lib.hid EA
  have HEC0 := Lib.hid EC
  have HKL := Lib.hid KL
  have HKM := Lib.hid KM
  clear KL KM
  clear BD EA EC
  go_wp2_with fail
  refine (HI0.out _ _ _ Ha Hb).mono ?_
  clear Ha Hb
  rintro e Y ⟨he, hbY⟩
  have HBY := Lib.hid (HBD0.out.trans (hbY.mono HBD0.out.size))
  have EA := HEA0.out.on hbY
  have EC := HEC0.out.on hbY
  have HLY := Lib.hid (ExL.ext hbY _ _ _ HKL.out)
  have HMY := Lib.hid (ExL.ext hbY _ _ _ HKM.out)
  clear hbY
  have HAY := Lib.hid EA
  have HCY := Lib.hid EC
  obtain ⟨lt, c0, c1, c2, c3, c4, c5, c6, c7, c8⟩ := EA
  obtain ⟨lt', d0, d1, d2, d3, d4, d5, d6, d7, d8⟩ := EC
  cases hs : sameE (.mk opa1x va1x rela1x cola1x na1x sa1x la1x) (.mk opb1x vb1x relb1x colb1x nb1x sb1x lb1x) with
  | false =>
    have HQ0 := Lib.hid hs
    rw [hs] at he
    clear hs
    subst he
    go_wp2_with fail
    refine bodyPost_ret (v := .bool false) (by simp [results, Tryd.results35, go_sem]) rfl ⟨by rw [HS.out, sameL, HQ0.out, Bool.false_and], HBY.out⟩
  | true =>
    have HQ0 := Lib.hid hs
    rw [hs] at he
    clear hs
    subst he
    go_wp2_with fail
    have hl_ := ExL.at_ (j := 1) (x := x1) HLY.out rfl
    obtain ⟨ga1, offa1, csa1, hq, hga1, hxa1, hcell⟩ := hl_
    obtain ⟨rfl, rfl⟩ : ga1 = ga0 ∧ offa1 = offa0 := by cases hq; exact ⟨rfl, rfl⟩
    clear hq
    have HXa1 := Lib.hid hxa1
    obtain ⟨opa2x, va2x, rela2x, cola2x, na2x, sa2x, la2x⟩ := x1
    rw [ExM.iff] at hxa1
    obtain ⟨-, qqa1, cca1, rfl, -, -⟩ := hxa1
    have f0 := hcell 0 _ rfl
    have f1 := hcell 1 _ rfl
    have f2 := hcell 2 _ rfl
    have f3 := hcell 3 _ rfl
    have f4 := hcell 4 _ rfl
    have f5 := hcell 5 _ rfl
    have f6 := hcell 6 _ rfl
    have f7 := hcell 7 _ rfl
    have f8 := hcell 8 _ rfl
    clear hcell
    have hl_ := ExL.at_ (j := 1) (x := y1) HMY.out rfl
    obtain ⟨gb1, offb1, csb1, hq, hgb1, hxb1, hcell⟩ := hl_
    obtain ⟨rfl, rfl⟩ : gb1 = gb0 ∧ offb1 = offb0 := by cases hq; exact ⟨rfl, rfl⟩
    clear hq
    have HXb1 := Lib.hid hxb1
    obtain ⟨opb2x, vb2x, relb2x, colb2x, nb2x, sb2x, lb2x⟩ := y1
    rw [ExM.iff] at hxb1
    obtain ⟨-, qqb1, ccb1, rfl, -, -⟩ := hxb1
    have e0 := hcell 0 _ rfl
    have e1 := hcell 1 _ rfl
    have e2 := hcell 2 _ rfl
    have e3 := hcell 3 _ rfl
    have e4 := hcell 4 _ rfl
    have e5 := hcell 5 _ rfl
    have e6 := hcell 6 _ rfl
    have e7 := hcell 7 _ rfl
    have e8 := hcell 8 _ rfl
    clear hcell
    rw [rounds_succ]
    go_wp2_with fail
    go_still_tail 10, (by kernel_rfl)
    change wpList _ _ _ _ _ Y.drew
    have hd1 : Below Y.heap.size Y Y.drew := (Below.refl _ _).drew
    have Ha := ExM.ext hd1 _ _ HXa1.out
    have Hb := ExM.ext hd1 _ _ HXb1.out
    have EA := HAY.out.on hd1
    have EC := HCY.out.on hd1
    have BD := HBY.out.trans (hd1.mono HBY.out.size)
    clear hd1 f0 f1 f2 f3 f4 f5 f6 f7 f8 e0 e1 e2 e3 e4 e5 e6 e7 e8
    clear lt c0 c1 c2 c3 c4 c5 c6 c7 c8 lt' d0 d1 d2 d3 d4 d5 d6 d7 d8
    generalize Y.drew = U at Ha Hb EA EC BD ⊢
    have HBD1 := Lib.hid BD
    have HEA1 := Lib.hid EA
    have HEC1 := Lib.hid EC
    clear BD EA EC
    go_wp2_with fail
    refine (HI1.out _ _ _ Ha Hb).mono ?_
    clear Ha Hb
    rintro e Z ⟨he, hbZ⟩
    have HBZ := Lib.hid (HBD1.out.trans (hbZ.mono HBD1.out.size))
    have EA := HEA1.out.on hbZ
    have EC := HEC1.out.on hbZ
    clear hbZ
    have HAZ := Lib.hid EA
    have HCZ := Lib.hid EC
    obtain ⟨lt, c0, c1, c2, c3, c4, c5, c6, c7, c8⟩ := EA
    obtain ⟨lt', d0, d1, d2, d3, d4, d5, d6, d7, d8⟩ := EC
    cases hs : sameE (.mk opa2x va2x rela2x cola2x na2x sa2x la2x) (.mk opb2x vb2x relb2x colb2x nb2x sb2x lb2x) with
    | false =>
      have HQ1 := Lib.hid hs
      rw [hs] at he
      clear hs
      subst he
      go_wp2_with fail
      refine bodyPost_ret (v := .bool false) (by simp [results, Tryd.results35, go_sem]) rfl ⟨by rw [HS.out, sameL, sameL, HQ0.out, HQ1.out, Bool.false_and, Bool.true_and], HBZ.out⟩
    | true =>
      have HQ1 := Lib.hid hs
      rw [hs] at he
      clear hs
      subst he
      go_wp2_with fail
      rw [rounds_succ]
      go_wp2_with fail
      refine bodyPost_ret (v := .bool true) (by simp [results, Tryd.results35, go_sem]) rfl ⟨by rw [HS.out, sameL, sameL, sameL, HQ0.out, HQ1.out, Bool.true_and, Bool.true_and], HBZ.out⟩

theorem sameL_len : ∀ (l m : List Ex), l.length ≠ m.length → sameL l m = false
  | [], [], h => absurd rfl h
  | [], _ :: _, _ => by rw [sameL] <;> simp
  | _ :: _, [], _ => by rw [sameL] <;> simp
  | x :: l, y :: m, h => by rw [sameL, sameL_len l m (by simpa using h), Bool.and_false]
theorem same_out {opa : Int} {va : Val} {rela cola na : Int} {sa : ByteArray} {l : List Ex} {opb : Int} {vb : Val} {relb colb nb : Int} {sb : ByteArray} {m : List Ex}
    (hne : opa ≠ opb ∨ (va.k == vb.k && va.n == vb.n && va.s.toList == vb.s.toList) = false ∨ rela ≠ relb ∨ cola ≠ colb ∨ na ≠ nb ∨ l.length ≠ m.length) : sameE (.mk opa va rela cola na sa l) (.mk opb vb relb colb nb sb m) = false := by
  rw [sameE]
  rcases hne with h | h | h | h | h | h
  · rw [beq_eq_false_iff_ne.mpr h]; simp
  · rw [h]; simp
  · rw [beq_eq_false_iff_ne.mpr h]; simp
  · rw [beq_eq_false_iff_ne.mpr h]; simp
  · rw [beq_eq_false_iff_ne.mpr h]; simp
  · rw [sameL_len l m h, Bool.and_false]
theorem rsame_any : ∀ (k : Nat) (x y : Ex), x.deep ≤ k → x.okAll = true → y.okAll = true → ∀ (cs ds : List Value) (w : World), ExM w x cs → ExM w y ds → Calls Tryd.prog 35 #[.agg cs.toArray, .agg ds.toArray] w fun e w' => e = .returned (.bool (sameE x y)) ∧ Below w.heap.size w w'
  | 0, x, _, h, _, _, _, _, _, _, _ => absurd h (by have := deep_pos x; omega)
  | k + 1, .mk opa va rela cola na sa l, .mk opb vb relb colb nb sb m, hd, hok, hok', cs, ds, w, h, h' => by
    rw [ExM.iff] at h h'
    obtain ⟨-, qa, ca, rfl, -, hl⟩ := h
    obtain ⟨-, qb, cb, rfl, -, hm⟩ := h'
    rw [Ex.okAll, Bool.and_eq_true] at hok hok'
    rw [Ex.deep] at hd
    by_cases hne : opa ≠ opb ∨ (va.k == vb.k && va.n == vb.n && va.s.toList == vb.s.toList) = false ∨ rela ≠ relb ∨ cola ≠ colb ∨ na ≠ nb ∨ l.length ≠ m.length
    · rw [same_out hne]
      exact rsame_head opa va rela cola na sa qa l.length ca opb vb relb colb nb sb qb m.length cb w hne
    · have h1 : opa = opb := Classical.byContradiction fun h => hne (.inl h)
      have h2 : (va.k == vb.k && va.n == vb.n && va.s.toList == vb.s.toList) = true := by
        cases e : (va.k == vb.k && va.n == vb.n && va.s.toList == vb.s.toList) with
        | true => rfl
        | false => exact absurd (.inr (.inl e)) hne
      have h3 : rela = relb := Classical.byContradiction fun h => hne (.inr (.inr (.inl h)))
      have h4 : cola = colb := Classical.byContradiction fun h => hne (.inr (.inr (.inr (.inl h))))
      have h5 : na = nb := Classical.byContradiction fun h => hne (.inr (.inr (.inr (.inr (.inl h)))))
      have h6 : l.length = m.length := Classical.byContradiction fun h => hne (.inr (.inr (.inr (.inr (.inr h)))))
      clear hne
      subst h1 h3 h4 h5
      match l, m, hl, hm, hok, hok', hd, h6 with
      | [], [], _, _, _, _, _, _ => exact rsame_zero opa va rela cola na sa qa ca vb sb qb cb w h2
      | [x], [y], hl, hm, hok, hok', hd, _ =>
        have hx : okL [x] = true := hok.2
        have hy : okL [y] = true := hok'.2
        rw [okL, okL, Bool.and_true] at hx hy
        rw [deepL, deepL] at hd
        exact rsame_one opa va rela cola na sa qa ca vb sb qb cb x y w h2 hl hm (rsame_any k x y (by omega) hx hy)
      | [x, x'], [y, y'], hl, hm, hok, hok', hd, _ =>
        have hx : okL [x, x'] = true := hok.2
        have hy : okL [y, y'] = true := hok'.2
        rw [okL, okL, okL, Bool.and_true, Bool.and_eq_true] at hx hy
        rw [deepL, deepL, deepL] at hd
        exact rsame_two opa va rela cola na sa qa ca vb sb qb cb x y x' y' w h2 hl hm (rsame_any k x y (by omega) hx.1 hy.1) (rsame_any k x' y' (by omega) hx.2 hy.2)
      | _ :: _ :: _ :: r, _, _, _, hok, _, _, _ =>
        have := head_two hok.1
        simp only [List.length_cons] at this
        omega

end Go.Proofs.YtiidfghdmaipoaaDoor

namespace Go.Proofs.YtiidfghdmaipoaaDoor
open Go.RowKit
set_option maxRecDepth 100000

def sameB (x y : Ex) : Bool := rightE x && rightE y && sameE x y
set_option maxHeartbeats 8000000 in
theorem sameB_any (x y : Ex) (cs ds : List Value) (w : World) (h : ExM w x cs) (h' : ExM w y ds) : Calls Tryd.prog 13 #[.agg cs.toArray, .agg ds.toArray] w fun e w' => e = .returned (.bool (sameB x y)) ∧ Below w.heap.size w w' := by
  obtain ⟨opa, va, rela, cola, na, sa, la⟩ := x
  obtain ⟨opb, vb, relb, colb, nb, sb, lb⟩ := y
  have hx := h
  have hy := h'
  rw [ExM.iff] at h h'
  obtain ⟨-, qa, ca, rfl, -, -⟩ := h
  obtain ⟨-, qb, cb, rfl, -, -⟩ := h'
  have A0 := EB.new w opa va rela cola na sa qa la.length ca 26
  have B0 : Below w.heap.size w (w.alloc (.cells (exCells opa va rela cola na sa qa la.length ca).toArray 26)) := ext_alloc (ext_refl _) _
  obtain ⟨V, hV⟩ : ∃ V, V = w.alloc (.cells (exCells opa va rela cola na sa qa la.length ca).toArray 26) := ⟨_, rfl⟩
  rw [← hV] at A0 B0
  have A1 := EB.new V opb vb relb colb nb sb qb lb.length cb 26
  have B1 : Below V.heap.size V (V.alloc (.cells (exCells opb vb relb colb nb sb qb lb.length cb).toArray 26)) := ext_alloc (ext_refl _) _
  obtain ⟨W, hW⟩ : ∃ W, W = V.alloc (.cells (exCells opb vb relb colb nb sb qb lb.length cb).toArray 26) := ⟨_, rfl⟩
  rw [← hW] at A1 B1
  have A2 := A0.on B1
  have HXa := Lib.hid (ExM.ext B1 _ _ (ExM.ext B0 _ _ hx))
  have HXb := Lib.hid (ExM.ext B1 _ _ (ExM.ext B0 _ _ hy))
  have HB := Lib.hid (B0.trans (B1.mono B0.size))
  have hz : V.heap.size = w.heap.size + 1 := by rw [hV]; simp
  clear A0 B0 B1 hx hy
  go_enter Tryd.func13, Tryd.ntmps13
  go_upto_region 1 with fail
  rw [← hV, ← hW]
  rw [hz] at A1
  clear hV hW hz V
  obtain ⟨g, hg⟩ : ∃ g, g = w.heap.size := ⟨_, rfl⟩
  rw [← hg] at A1 A2
  rw [← hg]
  clear hg
  have HA := Lib.hid A2
  have HC := Lib.hid A1
  obtain ⟨lt, c0, c1, c2, c3, c4, c5, c6, c7, c8⟩ := A2
  obtain ⟨lt', d0, d1, d2, d3, d4, d5, d6, d7, d8⟩ := A1
  go_wp2_with fail
  refine (rightE_any _ _ _ HXa.out).mono ?_
  rintro e Y ⟨he, hbY⟩
  have HBY := Lib.hid (HB.out.trans (hbY.mono HB.out.size))
  have EA := HA.out.on hbY
  have EC := HC.out.on hbY
  have HAY := Lib.hid EA
  have HCY := Lib.hid EC
  have HXaY := Lib.hid (ExM.ext hbY _ _ HXa.out)
  have HXbY := Lib.hid (ExM.ext hbY _ _ HXb.out)
  clear hbY
  clear lt c0 c1 c2 c3 c4 c5 c6 c7 c8 lt' d0 d1 d2 d3 d4 d5 d6 d7 d8
  obtain ⟨lt, c0, c1, c2, c3, c4, c5, c6, c7, c8⟩ := EA
  obtain ⟨lt', d0, d1, d2, d3, d4, d5, d6, d7, d8⟩ := EC
  obtain ⟨r1, hr1⟩ : ∃ r, r = rightE (Ex.mk opa va rela cola na sa la) := ⟨_, rfl⟩
  rw [← hr1] at he
  have HR1 := Lib.hid hr1
  clear hr1
  subst he
  go_wp2_with fail
  refine (rightE_any _ _ _ HXbY.out).mono ?_
  rintro e Z ⟨he, hbZ⟩
  have HBZ := Lib.hid (HBY.out.trans (hbZ.mono HBY.out.size))
  have EA := HAY.out.on hbZ
  have EC := HCY.out.on hbZ
  have HAZ := Lib.hid EA
  have HCZ := Lib.hid EC
  have HXaZ := Lib.hid (ExM.ext hbZ _ _ HXaY.out)
  have HXbZ := Lib.hid (ExM.ext hbZ _ _ HXbY.out)
  clear hbZ
  clear lt c0 c1 c2 c3 c4 c5 c6 c7 c8 lt' d0 d1 d2 d3 d4 d5 d6 d7 d8
  obtain ⟨lt, c0, c1, c2, c3, c4, c5, c6, c7, c8⟩ := EA
  obtain ⟨lt', d0, d1, d2, d3, d4, d5, d6, d7, d8⟩ := EC
  obtain ⟨r2, hr2⟩ : ∃ r, r = rightE (Ex.mk opb vb relb colb nb sb lb) := ⟨_, rfl⟩
  rw [← hr2] at he
  have HR2 := Lib.hid hr2
  clear hr2
  subst he
  cases r1 with
  | false =>
    have HQ := Lib.hid (show sameB (Ex.mk opa va rela cola na sa la) (Ex.mk opb vb relb colb nb sb lb) = false by rw [sameB, ← HR1.out]; rfl)
    go_wp2_with fail
    refine bodyPost_ret (v := .bool false) (by simp [results, Tryd.results13, go_sem]) rfl ⟨by rw [HQ.out], HBZ.out⟩
  | true =>
    cases r2 with
    | false =>
      have HQ := Lib.hid (show sameB (Ex.mk opa va rela cola na sa la) (Ex.mk opb vb relb colb nb sb lb) = false by rw [sameB, ← HR1.out, ← HR2.out]; rfl)
      go_wp2_with fail
      refine bodyPost_ret (v := .bool false) (by simp [results, Tryd.results13, go_sem]) rfl ⟨by rw [HQ.out], HBZ.out⟩
    | true =>
      have HQ := Lib.hid (show sameB (Ex.mk opa va rela cola na sa la) (Ex.mk opb vb relb colb nb sb lb) = sameE (Ex.mk opa va rela cola na sa la) (Ex.mk opb vb relb colb nb sb lb) by rw [sameB, ← HR1.out, ← HR2.out]; rfl)
      go_wp2_with fail
      refine (rsame_any _ _ _ (Nat.le_refl _) (rightE_parts HR1.out.symm).1 (rightE_parts HR2.out.symm).1 _ _ _ HXaZ.out HXbZ.out).mono ?_
      rintro e U ⟨he, hbU⟩
      have HBU := Lib.hid (HBZ.out.trans (hbU.mono HBZ.out.size))
      obtain ⟨r3, hr3⟩ : ∃ r, r = sameE (Ex.mk opa va rela cola na sa la) (Ex.mk opb vb relb colb nb sb lb) := ⟨_, rfl⟩
      rw [← hr3] at he
      have HR3 := Lib.hid hr3
      clear hr3 hbU
      clear lt c0 c1 c2 c3 c4 c5 c6 c7 c8 lt' d0 d1 d2 d3 d4 d5 d6 d7 d8
      subst he
      go_wp2_with fail
      refine bodyPost_ret (v := .bool r3) (by simp [results, Tryd.results13, go_sem]) rfl ⟨by rw [HQ.out, HR3.out], HBU.out⟩

end Go.Proofs.YtiidfghdmaipoaaDoor
