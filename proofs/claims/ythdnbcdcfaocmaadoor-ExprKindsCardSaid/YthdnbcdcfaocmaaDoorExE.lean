/- The reference: the tables an expression speaks of (tables, Tables). -/
import Derived.Test.YthdnbcdcfaocmaaDoorExD
namespace Go.Proofs.YthdnbcdcfaocmaaDoor
open Go.RowKit
set_option maxRecDepth 100000

theorem bits_or_nat {a b : Nat} (ha : a < 65536) (hb : b < 65536) : bits .or .i64 (a : Int) (b : Int) = ((a ||| b : Nat) : Int) := by
  have h : a ||| b < 2 ^ 16 := Nat.or_lt_two_pow (by omega) (by omega)
  change IntKind.wrap .i64 ((BitVec.ofInt 64 (a : Int) ||| BitVec.ofInt 64 (b : Int)).toNat : Int) = _
  rw [BitVec.ofInt_natCast, BitVec.ofInt_natCast, BitVec.toNat_or, BitVec.toNat_ofNat, BitVec.toNat_ofNat, Nat.mod_eq_of_lt (by omega), Nat.mod_eq_of_lt (by omega)]
  rw [IntKind.wrap_i64]
  try unfold wrap64
  omega
theorem rel_ok {op : Int} {v : Val} {rel col n : Int} {s : ByteArray} {len : Nat} (h : headOk op v rel col n s len = true) (h2 : op = 2) : 0 ≤ rel ∧ rel ≤ 15 := by
  obtain ⟨_, _, _, h⟩ := head_parts h
  rcases h with ⟨h1, _⟩ | ⟨_, ⟨_, h1⟩ | ⟨h1, _⟩ | h1⟩
  · omega
  · exact ⟨h1.1, h1.2.1⟩
  · omega
  · omega
theorem op_two {op : Int} {v : Val} {rel col n : Int} {s : ByteArray} {len : Nat} (h : headOk op v rel col n s len = true) (hl : 0 < len) : op ≠ 2 := by
  rintro rfl
  have := (head_parts h).1
  have h2 : wantsOf 2 = 0 := rfl
  rw [h2] at this
  omega
mutual
theorem tabs_lt : ∀ (x : Ex), x.okAll = true → x.tabs < 65536
  | .mk op v rel col n s l, h => by
    rw [Ex.okAll, Bool.and_eq_true] at h
    have h1 := tabsL_lt l h.2
    rw [Ex.tabs]
    have h2 : (if op = 2 then 2 ^ rel.toNat else 0) < 2 ^ 16 := by
      split
      · rename_i e
        have := rel_ok h.1 e
        exact Nat.pow_lt_pow_right (by omega) (by omega)
      · omega
    exact Nat.or_lt_two_pow (n := 16) h2 h1
theorem tabsL_lt : ∀ (l : List Ex), okL l = true → tabsL l < 65536
  | [], _ => by rw [tabsL]; omega
  | x :: r, h => by
    rw [okL, Bool.and_eq_true] at h
    rw [tabsL]
    exact Nat.or_lt_two_pow (n := 16) (tabs_lt x h.1) (tabsL_lt r h.2)
end
theorem pow_in {rel : Int} (h : rel ≤ 15) : wrap64 (2 ^ rel.toNat) = 2 ^ rel.toNat := by
  have h2 : 2 ^ rel.toNat < 2 ^ 16 := Nat.pow_lt_pow_right (by omega) (by omega)
  have e : (2 : Int) ^ rel.toNat = ((2 ^ rel.toNat : Nat) : Int) := by simp
  rw [e]
  generalize 2 ^ rel.toNat = m at h2 ⊢
  clear e
  unfold wrap64
  omega
theorem tabs_ref {v : Val} {rel col n : Int} {s : ByteArray} : ((Ex.mk 2 v rel col n s []).tabs : Int) = 2 ^ rel.toNat := by
  rw [Ex.tabs, if_pos rfl, tabsL, Nat.or_zero]
  simp
theorem tabs_other {op : Int} {v : Val} {rel col n : Int} {s : ByteArray} {l : List Ex} (h : op ≠ 2) : (Ex.mk op v rel col n s l).tabs = tabsL l := by
  rw [Ex.tabs, if_neg h, Nat.zero_or]

set_option maxHeartbeats 8000000 in
theorem rtables_zero (op : Int) (v : Val) (rel col n : Int) (s : ByteArray) (q : Option Addr) (c : Nat) (w : World) (hh : headOk op v rel col n s ([] : List Ex).length = true) : Calls Tryd.prog 52 #[.agg (exCells op v rel col n s q ([] : List Ex).length c).toArray] w fun e w' => e = .returned (.int .i64 ((Ex.mk op v rel col n s []).tabs : Int)) ∧ Below w.heap.size w w' := by
  have H2 := Lib.hid (rel_ok hh)
  clear hh
  simp only [List.length_nil]
  have E0 := EB.new w op v rel col n s q 0 c 26
  have B0 : Below w.heap.size w (w.alloc (.cells (exCells op v rel col n s q 0 c).toArray 26)) := ext_alloc (ext_refl _) _
  obtain ⟨W, hW⟩ : ∃ W, W = w.alloc (.cells (exCells op v rel col n s q 0 c).toArray 26) := ⟨_, rfl⟩
  rw [← hW] at E0 B0
  go_enter Tryd.func52, Tryd.ntmps52
  go_upto_region 1 with fail
  rw [← hW]
  clear hW
  obtain ⟨g, hg⟩ : ∃ g, g = w.heap.size := ⟨_, rfl⟩
  have HB := Lib.hid B0
  rw [← hg] at E0
  rw [← hg]
  clear B0 hg
  have HE := Lib.hid E0
  obtain ⟨lt, c0, c1, c2, c3, c4, c5, c6, c7, c8⟩ := E0
  by_cases e2 : op = 2
  · have hr := H2.out e2
    have HS := Lib.hid (show ((Ex.mk op v rel col n s []).tabs : Int) = 2 ^ rel.toNat by rw [e2]; exact tabs_ref)
    obtain ⟨hr1, hr2⟩ := hr
    have HW := Lib.hid (pow_in hr2)
    have qop2 : (op == 2) = true := by rw [beq_iff_eq]; exact e2
    clear e2
    go_wp2_with fail
    clear hr1 hr2
    refine wp_loop_rounds 1 ?_
    rw [rounds_succ]
    go_wp2_with fail
    refine bodyPost_ret (v := .int .i64 (wrap64 (2 ^ rel.toNat))) (by simp [results, Tryd.results52, go_sem]) rfl ⟨by rw [HS.out, HW.out], HB.out⟩
  · have HS := Lib.hid (show (Ex.mk op v rel col n s []).tabs = 0 by rw [tabs_other e2, tabsL])
    have qop2 : (op == 2) = false := by rw [beq_eq_false_iff_ne]; exact e2
    clear e2
    go_wp2_with fail
    refine wp_loop_rounds 1 ?_
    rw [rounds_succ]
    go_wp2_with fail
    refine bodyPost_ret (v := .int .i64 0) (by simp [results, Tryd.results52, go_sem]) rfl ⟨by rw [HS.out]; rfl, HB.out⟩

set_option maxHeartbeats 8000000 in
theorem rtables_one (op : Int) (v : Val) (rel col n : Int) (s : ByteArray) (x : Ex) (q : Option Addr) (c : Nat) (w : World) (hl : ExL w q 0 [x]) (IHx : ∀ (cs : List Value) (w : World), ExM w x cs → Calls Tryd.prog 52 #[.agg cs.toArray] w fun e w' => e = .returned (.int .i64 (x.tabs : Int)) ∧ Below w.heap.size w w') (hh : headOk op v rel col n s ([x] : List Ex).length = true) (okx : x.okAll = true) : Calls Tryd.prog 52 #[.agg (exCells op v rel col n s q ([x] : List Ex).length c).toArray] w fun e w' => e = .returned (.int .i64 ((Ex.mk op v rel col n s [x]).tabs : Int)) ∧ Below w.heap.size w w' := by
  have e2 := op_two hh (by simp)
  have HS := Lib.hid (show (Ex.mk op v rel col n s [x]).tabs = x.tabs by rw [tabs_other e2, tabsL, tabsL, Nat.or_zero])
  have qop2 : (op == 2) = false := by rw [beq_eq_false_iff_ne]; exact e2
  clear e2
  have hbo : bits .or .i64 0 (x.tabs : Int) = (x.tabs : Int) := (bits_or_nat (a := 0) (by omega) (tabs_lt x okx)).trans (by rw [Nat.zero_or])
  clear hh okx
  generalize x.tabs = t1 at HS hbo IHx
  have HL := Lib.hid hl
  clear hl
  have HIx := Lib.hid IHx
  clear IHx
  simp only [List.length_cons, List.length_nil, Nat.zero_add]
  have E0 := EB.new w op v rel col n s q 1 c 26
  have B0 : Below w.heap.size w (w.alloc (.cells (exCells op v rel col n s q 1 c).toArray 26)) := ext_alloc (ext_refl _) _
  obtain ⟨W, hW⟩ : ∃ W, W = w.alloc (.cells (exCells op v rel col n s q 1 c).toArray 26) := ⟨_, rfl⟩
  rw [← hW] at E0 B0
  go_enter Tryd.func52, Tryd.ntmps52
  go_upto_region 1 with fail
  rw [← hW]
  clear hW
  obtain ⟨g, hg⟩ : ∃ g, g = w.heap.size := ⟨_, rfl⟩
  have HB := Lib.hid B0
  rw [← hg] at E0
  rw [← hg]
  clear B0 hg
  have HE := Lib.hid E0
  obtain ⟨lt, c0, c1, c2, c3, c4, c5, c6, c7, c8⟩ := E0
  have hl_0 := ExL.ext HB.out _ _ _ HL.out
  have hl_ := ExL.at_ (j := 0) (x := x) hl_0 rfl
  obtain ⟨g0, off0, cs0, hq0, hg0, hx0, hcell⟩ := hl_
  subst hq0
  have HX0 := Lib.hid hx0
  obtain ⟨op1, v1, rel1, col1, n1, s1, l1⟩ := x
  rw [ExM.iff] at hx0
  obtain ⟨-, qq0, cc0, rfl, -, -⟩ := hx0
  have f0 := hcell 0 _ rfl
  have f1 := hcell 1 _ rfl
  have f2 := hcell 2 _ rfl
  have f3 := hcell 3 _ rfl
  have f4 := hcell 4 _ rfl
  have f5 := hcell 5 _ rfl
  have f6 := hcell 6 _ rfl
  have f7 := hcell 7 _ rfl
  have f8 := hcell 8 _ rfl
  simp only [Nat.zero_mul, Nat.add_zero] at f0 f1 f2 f3 f4 f5 f6 f7 f8
  clear hcell
  clear hl_0
  go_wp2_with fail
  refine wp_loop_rounds 2 ?_
  rw [rounds_succ]
  go_wp2_with fail
  refine (HIx.out _ _ HX0.out).mono ?_
  rintro e Y ⟨rfl, hbY⟩
  have HBY := Lib.hid (HB.out.trans (hbY.mono HB.out.size))
  have EY := HE.out.on hbY
  clear hbY
  clear f0 f1 f2 f3 f4 f5 f6 f7 f8 c0 c1 c2 c3 c4 c5 c6 c7 c8 lt
  obtain ⟨lt, c0, c1, c2, c3, c4, c5, c6, c7, c8⟩ := EY
  go_wp2_with fail
  rw [rounds_succ]
  go_wp2_with fail
  refine bodyPost_ret (v := .int .i64 (t1 : Int)) (by simp [results, Tryd.results52, go_sem]) rfl ⟨by rw [HS.out], HBY.out⟩

set_option maxHeartbeats 8000000 in
theorem rtables_two (op : Int) (v : Val) (rel col n : Int) (s : ByteArray) (x : Ex) (y : Ex) (q : Option Addr) (c : Nat) (w : World) (hl : ExL w q 0 [x, y]) (IHx : ∀ (cs : List Value) (w : World), ExM w x cs → Calls Tryd.prog 52 #[.agg cs.toArray] w fun e w' => e = .returned (.int .i64 (x.tabs : Int)) ∧ Below w.heap.size w w') (IHy : ∀ (cs : List Value) (w : World), ExM w y cs → Calls Tryd.prog 52 #[.agg cs.toArray] w fun e w' => e = .returned (.int .i64 (y.tabs : Int)) ∧ Below w.heap.size w w') (hh : headOk op v rel col n s ([x, y] : List Ex).length = true) (okx : x.okAll = true) (oky : y.okAll = true) : Calls Tryd.prog 52 #[.agg (exCells op v rel col n s q ([x, y] : List Ex).length c).toArray] w fun e w' => e = .returned (.int .i64 ((Ex.mk op v rel col n s [x, y]).tabs : Int)) ∧ Below w.heap.size w w' := by
  have e2 := op_two hh (by simp)
  have HS := Lib.hid (show (Ex.mk op v rel col n s [x, y]).tabs = x.tabs ||| y.tabs by rw [tabs_other e2, tabsL, tabsL, tabsL, Nat.or_zero])
  have qop2 : (op == 2) = false := by rw [beq_eq_false_iff_ne]; exact e2
  clear e2
  have hbo : bits .or .i64 0 (x.tabs : Int) = (x.tabs : Int) := (bits_or_nat (a := 0) (by omega) (tabs_lt x okx)).trans (by rw [Nat.zero_or])
  have hbp : bits .or .i64 (x.tabs : Int) (y.tabs : Int) = ((x.tabs ||| y.tabs : Nat) : Int) := bits_or_nat (tabs_lt x okx) (tabs_lt y oky)
  clear hh okx oky
  generalize x.tabs ||| y.tabs = t3 at HS hbp
  generalize x.tabs = t1 at hbo hbp IHx
  generalize y.tabs = t2 at hbp IHy
  have HL := Lib.hid hl
  clear hl
  have HIx := Lib.hid IHx
  clear IHx
  have HIy := Lib.hid IHy
  clear IHy
  simp only [List.length_cons, List.length_nil, Nat.zero_add]
  have E0 := EB.new w op v rel col n s q 2 c 26
  have B0 : Below w.heap.size w (w.alloc (.cells (exCells op v rel col n s q 2 c).toArray 26)) := ext_alloc (ext_refl _) _
  obtain ⟨W, hW⟩ : ∃ W, W = w.alloc (.cells (exCells op v rel col n s q 2 c).toArray 26) := ⟨_, rfl⟩
  rw [← hW] at E0 B0
  go_enter Tryd.func52, Tryd.ntmps52
  go_upto_region 1 with fail
  rw [← hW]
  clear hW
  obtain ⟨g, hg⟩ : ∃ g, g = w.heap.size := ⟨_, rfl⟩
  have HB := Lib.hid B0
  rw [← hg] at E0
  rw [← hg]
  clear B0 hg
  have HE := Lib.hid E0
  obtain ⟨lt, c0, c1, c2, c3, c4, c5, c6, c7, c8⟩ := E0
  have hl_0 := ExL.ext HB.out _ _ _ HL.out
  have HLW := Lib.hid hl_0
  have hl_ := ExL.at_ (j := 0) (x := x) hl_0 rfl
  obtain ⟨g0, off0, cs0, hq0, hg0, hx0, hcell⟩ := hl_
  subst hq0
  have HX0 := Lib.hid hx0
  obtain ⟨op1, v1, rel1, col1, n1, s1, l1⟩ := x
  rw [ExM.iff] at hx0
  obtain ⟨-, qq0, cc0, rfl, -, -⟩ := hx0
  have f0 := hcell 0 _ rfl
  have f1 := hcell 1 _ rfl
  have f2 := hcell 2 _ rfl
  have f3 := hcell 3 _ rfl
  have f4 := hcell 4 _ rfl
  have f5 := hcell 5 _ rfl
  have f6 := hcell 6 _ rfl
  have f7 := hcell 7 _ rfl
  have f8 := hcell 8 _ rfl
  simp only [Nat.zero_mul, Nat.add_zero] at f0 f1 f2 f3 f4 f5 f6 f7 f8
  clear hcell
  clear hl_0
  go_wp2_with fail
  refine wp_loop_rounds 3 ?_
  rw [rounds_succ]
  go_wp2_with fail
  refine (HIx.out _ _ HX0.out).mono ?_
  rintro e Y ⟨rfl, hbY⟩
  have HBY := Lib.hid (HB.out.trans (hbY.mono HB.out.size))
  have EY := HE.out.on hbY
  have HLY := Lib.hid (ExL.ext hbY _ _ _ HLW.out)
  clear hbY
  clear f0 f1 f2 f3 f4 f5 f6 f7 f8 c0 c1 c2 c3 c4 c5 c6 c7 c8 lt
  have HEY := Lib.hid EY
  obtain ⟨lt, c0, c1, c2, c3, c4, c5, c6, c7, c8⟩ := EY
  go_wp2_with fail
  have hl_ := ExL.at_ (j := 1) (x := y) HLY.out rfl
  obtain ⟨g1, off1, cs1, hq1, hg1, hx1, hcell⟩ := hl_
  obtain ⟨rfl, rfl⟩ : g1 = g0 ∧ off1 = off0 := by cases hq1; exact ⟨rfl, rfl⟩
  clear hq1
  have HX1 := Lib.hid hx1
  obtain ⟨op2, v2, rel2, col2, n2, s2, l2⟩ := y
  rw [ExM.iff] at hx1
  obtain ⟨-, qq1, cc1, rfl, -, -⟩ := hx1
  have f0 := hcell 0 _ rfl
  have f1 := hcell 1 _ rfl
  have f2 := hcell 2 _ rfl
  have f3 := hcell 3 _ rfl
  have f4 := hcell 4 _ rfl
  have f5 := hcell 5 _ rfl
  have f6 := hcell 6 _ rfl
  have f7 := hcell 7 _ rfl
  have f8 := hcell 8 _ rfl
  clear hcell
  rw [rounds_succ]
  go_wp2_with fail
  refine (HIy.out _ _ HX1.out).mono ?_
  rintro e Z ⟨rfl, hbZ⟩
  have HBZ := Lib.hid (HBY.out.trans (hbZ.mono HBY.out.size))
  have EZ := HEY.out.on hbZ
  clear hbZ
  clear f0 f1 f2 f3 f4 f5 f6 f7 f8 c0 c1 c2 c3 c4 c5 c6 c7 c8 lt
  obtain ⟨lt, c0, c1, c2, c3, c4, c5, c6, c7, c8⟩ := EZ
  go_wp2_with fail
  rw [rounds_succ]
  go_wp2_with fail
  refine bodyPost_ret (v := .int .i64 (t3 : Int)) (by simp [results, Tryd.results52, go_sem]) rfl ⟨by rw [HS.out], HBZ.out⟩

theorem rtables_any : ∀ (k : Nat) (x : Ex), x.deep ≤ k → x.okAll = true → ∀ (cs : List Value) (w : World), ExM w x cs → Calls Tryd.prog 52 #[.agg cs.toArray] w fun e w' => e = .returned (.int .i64 (x.tabs : Int)) ∧ Below w.heap.size w w'
  | 0, x, h, _, _, _, _ => absurd h (by have := deep_pos x; omega)
  | k + 1, .mk op v rel col n s l, hd, hok, cs, w, h => by
    rw [ExM.iff] at h
    obtain ⟨-, q, c, rfl, -, hl⟩ := h
    rw [Ex.okAll, Bool.and_eq_true] at hok
    rw [Ex.deep] at hd
    match l, hl, hok, hd with
    | [], _, hok, _ => exact rtables_zero op v rel col n s q c w hok.1
    | [x], hl, hok, hd =>
      have hx : okL [x] = true := hok.2
      rw [okL, okL, Bool.and_true] at hx
      rw [deepL, deepL] at hd
      exact rtables_one op v rel col n s x q c w hl (rtables_any k x (by omega) hx) hok.1 hx
    | [x, y], hl, hok, hd =>
      have hx : okL [x, y] = true := hok.2
      rw [okL, okL, okL, Bool.and_true, Bool.and_eq_true] at hx
      rw [deepL, deepL, deepL] at hd
      exact rtables_two op v rel col n s x y q c w hl (rtables_any k x (by omega) hx.1) (rtables_any k y (by omega) hx.2) hok.1 hx.1 hx.2
    | _ :: _ :: _ :: r, _, hok, _ =>
      have := head_two hok.1
      simp only [List.length_cons] at this
      omega

def tablesE (x : Ex) : Nat := bif rightE x then x.tabs else 0
set_option maxHeartbeats 4000000 in
theorem tablesE_any (x : Ex) (cs : List Value) (w : World) (h : ExM w x cs) : Calls Tryd.prog 24 #[.agg cs.toArray] w fun e w' => e = .returned (.int .i64 (tablesE x : Int)) ∧ Below w.heap.size w w' := by
  obtain ⟨op, v, rel, col, n, s, l⟩ := x
  have hx := h
  rw [ExM.iff] at h
  obtain ⟨-, q, c, rfl, -, -⟩ := h
  have E0 := EB.new w op v rel col n s q l.length c 26
  have B0 : Below w.heap.size w (w.alloc (.cells (exCells op v rel col n s q l.length c).toArray 26)) := ext_alloc (ext_refl _) _
  have HX := Lib.hid (ExM.ext B0 _ _ hx)
  obtain ⟨W, hW⟩ : ∃ W, W = w.alloc (.cells (exCells op v rel col n s q l.length c).toArray 26) := ⟨_, rfl⟩
  rw [← hW] at E0 B0 HX
  have H := Lib.hid (rightE_any _ _ _ HX.out)
  go_enter Tryd.func24, Tryd.ntmps24
  go_upto_region 1 with fail
  rw [← hW]
  clear hW hx
  obtain ⟨g, hg⟩ : ∃ g, g = w.heap.size := ⟨_, rfl⟩
  have HB := Lib.hid B0
  rw [← hg] at E0
  rw [← hg]
  clear B0 hg
  have HE := Lib.hid E0
  obtain ⟨lt, c0, c1, c2, c3, c4, c5, c6, c7, c8⟩ := E0
  go_wp2_with fail
  refine H.out.mono ?_
  rintro e Y ⟨he, hbY⟩
  have HBY := Lib.hid (HB.out.trans (hbY.mono HB.out.size))
  have EY := HE.out.on hbY
  have HXY := Lib.hid (ExM.ext hbY _ _ HX.out)
  clear hbY lt c0 c1 c2 c3 c4 c5 c6 c7 c8
  obtain ⟨lt, c0, c1, c2, c3, c4, c5, c6, c7, c8⟩ := EY
  cases hs : rightE (.mk op v rel col n s l) with
  | false =>
    have HQ := Lib.hid hs
    rw [hs] at he
    clear hs
    subst he
    go_wp2_with fail
    refine bodyPost_ret (v := .int .i64 0) (by simp [results, Tryd.results24, go_sem]) rfl ⟨by rw [tablesE, HQ.out]; rfl, HBY.out⟩
  | true =>
    have HP := Lib.hid (rightE_parts hs)
    have HQ := Lib.hid hs
    rw [hs] at he
    clear hs
    subst he
    go_wp2_with fail
    refine (rtables_any _ _ (Nat.le_refl _) HP.out.1 _ _ HXY.out).mono ?_
    rintro e Z ⟨rfl, hbZ⟩
    have HBZ := Lib.hid (HBY.out.trans (hbZ.mono HBY.out.size))
    clear hbZ lt c0 c1 c2 c3 c4 c5 c6 c7 c8
    go_wp2_with fail
    refine bodyPost_ret (v := .int .i64 (Ex.tabs (.mk op v rel col n s l) : Nat)) (by simp [results, Tryd.results24, go_sem]) rfl ⟨by rw [tablesE, HQ.out]; rfl, HBZ.out⟩

end Go.Proofs.YthdnbcdcfaocmaaDoor
