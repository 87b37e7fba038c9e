/- The reference: whether all columns and parameters are there (known): at a column; whatever the expression. -/
import Derived.Test.YthdnbcdcfaocmaaDoorExK
import Derived.Test.YthdnbcdcfaocmaaDoorDvU
namespace Go.Proofs.YthdnbcdcfaocmaaDoor
open Go.RowKit
set_option maxRecDepth 100000

set_option maxHeartbeats 8000000 in
theorem rknown_col (op : Int) (v : Val) (n : Int) (s : ByteArray) (q : Option Addr) (c : Nat) (w : World) (cv pv : Value) (cols : List (List Int)) (ps : List Int) (hk : KM w cv pv cols ps) (e2 : op = 2) (r m : Nat) : Calls Tryd.prog 58 #[.agg (exCells op v (r : Int) (m : Int) n s q ([] : List Ex).length c).toArray, cv, pv] w fun e w' => e = .returned (.bool (knownE cols ps (.mk op v (r : Int) (m : Int) n s []))) ∧ Below w.heap.size w w' := by
  have HQ0 := Lib.hid (show knownE cols ps (.mk op v (r : Int) (m : Int) n s []) = leafOk ((cols[r]?).bind fun l => l[m]?) by rw [knownE, leafK, if_pos e2, knownL, Bool.and_true, Int.toNat_natCast, Int.toNat_natCast])
  have qop2 : (op == 2) = true := by rw [beq_iff_eq]; exact e2
  have HK := Lib.hid hk
  clear e2
  obtain ⟨⟨cq, cc, rfl, hcc, hcm, -⟩, pq, pc, rfl, hpc, hpm, -⟩ := hk
  obtain ⟨rel, hrel⟩ : ∃ rel : Int, rel = (r : Int) := ⟨_, rfl⟩
  obtain ⟨col, hcol⟩ : ∃ col : Int, col = (m : Int) := ⟨_, rfl⟩
  rw [← hrel, ← hcol] at HQ0 ⊢
  have HREL := Lib.hid hrel
  have HCOL := Lib.hid hcol
  clear hrel hcol
  simp only [List.length_nil]
  have E0 := EB.new w op v rel col n s q 0 c 26
  have B0 : Below w.heap.size w (w.alloc (.cells (exCells op v rel col n s q 0 c).toArray 26)) := ext_alloc (ext_refl _) _
  obtain ⟨W, hW⟩ : ∃ W, W = w.alloc (.cells (exCells op v rel col n s q 0 c).toArray 26) := ⟨_, rfl⟩
  rw [← hW] at E0 B0
  go_enter Tryd.func58, Tryd.ntmps58
  go_upto_region 1 with fail
  rw [← hW]
  clear hW
  obtain ⟨g, hg⟩ : ∃ g, g = w.heap.size := ⟨_, rfl⟩
  have HB := Lib.hid B0
  have HGW := Lib.hid hg
  rw [← hg] at E0
  rw [← hg]
  clear B0 hg
  have HE := Lib.hid E0
  obtain ⟨lt, c0, c1, c2, c3, c4, c5, c6, c7, c8⟩ := E0
  have hK := HK.out.on HB.out
  have HKW := Lib.hid hK
  clear HK hK
  have hrel := HREL.out
  have hcol := HCOL.out
  clear HREL HCOL
  subst hrel hcol
  rcases Nat.lt_or_ge r cols.length with hlt | hge
  · have d0 : ¬ (r : Int) ≥ (cols.length : Int) := by omega
    obtain ⟨⟨_, _, hsl, _, _, hP⟩, -⟩ := HKW.out
    obtain ⟨rfl, -, rfl⟩ : cq = _ ∧ True ∧ cc = _ := by injection hsl with h1 _ h3; exact ⟨h1, trivial, h3⟩
    clear hsl
    obtain ⟨gp, offp, hq, _, hgp, hcell⟩ := ArrA.at_ hP hlt
    subst hq
    obtain ⟨lq, lc, hcell, hlc, hlm, hL⟩ := hcell
    rw [Nat.mul_one] at hcell
    obtain ⟨ll, hll⟩ : ∃ k, k = cols[r] := ⟨_, rfl⟩
    have HQ1 := Lib.hid (HQ0.out.trans (congrArg leafOk (show ((cols[r]?).bind fun l => l[m]?) = ll[m]? by rw [hll, List.getElem?_eq_getElem hlt]; rfl)))
    rw [← hll] at hcell hL hlc
    clear hll hP HQ0
    rcases Nat.lt_or_ge m ll.length with hlt2 | hge2
    · have d1 : ¬ (m : Int) ≥ (ll.length : Int) := by omega
      obtain ⟨gl, offl, hq, _, hgl, hc2⟩ := ArrA.at_ hL hlt2
      subst hq
      unfold intC at hc2
      rw [Nat.mul_one] at hc2
      obtain ⟨k, hk⟩ : ∃ k, k = ll[m] := ⟨_, rfl⟩
      have HQ := Lib.hid (HQ1.out.trans (congrArg leafOk (show ll[m]? = some k by rw [hk, List.getElem?_eq_getElem hlt2])))
      rw [← hk] at hc2
      clear hk hL HQ1
      go_wp2_with fail
      have db0 : decide (cols.length ≤ r) = false := decide_eq_false (by omega)
      have db1 : decide (ll.length ≤ m) = false := decide_eq_false (by omega)
      go_big_quiet (fail)
      go_wp2_with fail
      go_big_quiet (fail)
      rcases Int.lt_or_le k 0 with h0 | h0
      · have HV := Lib.hid (show leafOk (some k) = false by rw [leafOk, decide_eq_false (by omega)]; rfl)
        go_wp2_with fail
        refine bodyPost_ret (v := .bool false) (by simp [results, Tryd.results58, go_sem]) rfl ⟨by rw [HQ.out, HV.out], (by have := HB.out; (repeat (first | exact ext_refl _ | assumption | (refine ext_alloc ?_ _) | (refine ext_drewN ?_ _) | refine ext_drew ?_ | (refine ext_set (by first | (simp; done) | (simp; omega)) _ ?_) | (refine ext_trans ?_ (by assumption)))))⟩
      · have h0' : ¬ k < 0 := by omega
        rcases Int.lt_or_le 3 k with h3 | h3
        · have h3' : k > 3 := h3
          have HV := Lib.hid (show leafOk (some k) = false by rw [leafOk, decide_eq_false (p := k ≤ 3) (by omega), Bool.and_false])
          go_wp2_with fail
          refine bodyPost_ret (v := .bool false) (by simp [results, Tryd.results58, go_sem]) rfl ⟨by rw [HQ.out, HV.out], (by have := HB.out; (repeat (first | exact ext_refl _ | assumption | (refine ext_alloc ?_ _) | (refine ext_drewN ?_ _) | refine ext_drew ?_ | (refine ext_set (by first | (simp; done) | (simp; omega)) _ ?_) | (refine ext_trans ?_ (by assumption)))))⟩
        · have HV := Lib.hid (show leafOk (some k) = true by rw [leafOk, decide_eq_true h0, decide_eq_true h3]; rfl)
          have h3' : ¬ k > 3 := by omega
          go_wp2_with fail
          refine wp_loop_rounds 1 ?_
          rw [rounds_succ]
          go_wp2_with fail
          refine bodyPost_ret (v := .bool true) (by simp [results, Tryd.results58, go_sem]) rfl ⟨by rw [HQ.out, HV.out], (by have := HB.out; (repeat (first | exact ext_refl _ | assumption | (refine ext_alloc ?_ _) | (refine ext_drewN ?_ _) | refine ext_drew ?_ | (refine ext_set (by first | (simp; done) | (simp; omega)) _ ?_) | (refine ext_trans ?_ (by assumption)))))⟩
    · have d1 : (m : Int) ≥ (ll.length : Int) := by omega
      have HQ := Lib.hid (HQ1.out.trans (congrArg leafOk (show ll[m]? = none from List.getElem?_eq_none hge2)))
      clear hge2 hL HQ1
      go_wp2_with fail
      have db0 : decide (cols.length ≤ r) = false := decide_eq_false (by omega)
      have db1 : decide (ll.length ≤ m) = true := decide_eq_true (by omega)
      go_big_quiet (fail)
      go_wp2_with fail
      refine bodyPost_ret (v := .bool false) (by simp [results, Tryd.results58, go_sem]) rfl ⟨by rw [HQ.out, leafOk], (by have := HB.out; (repeat (first | exact ext_refl _ | assumption | (refine ext_alloc ?_ _) | (refine ext_drewN ?_ _) | refine ext_drew ?_ | (refine ext_set (by first | (simp; done) | (simp; omega)) _ ?_) | (refine ext_trans ?_ (by assumption)))))⟩
  · have d0 : (r : Int) ≥ (cols.length : Int) := by omega
    have HQ := Lib.hid (HQ0.out.trans (congrArg leafOk (show ((cols[r]?).bind fun l => l[m]?) = none by rw [List.getElem?_eq_none hge]; rfl)))
    clear hge HQ0
    go_wp2_with fail
    have db0 : decide (cols.length ≤ r) = true := decide_eq_true (by omega)
    go_big_quiet (fail)
    go_wp2_with fail
    refine bodyPost_ret (v := .bool false) (by simp [results, Tryd.results58, go_sem]) rfl ⟨by rw [HQ.out, leafOk], (by have := HB.out; (repeat (first | exact ext_refl _ | assumption | (refine ext_alloc ?_ _) | (refine ext_drewN ?_ _) | refine ext_drew ?_ | (refine ext_set (by first | (simp; done) | (simp; omega)) _ ?_) | (refine ext_trans ?_ (by assumption)))))⟩

theorem rknown_any : ∀ (k : Nat) (x : Ex), x.deep ≤ k → x.okAll = true → ∀ (cs : List Value) (w : World) (cv pv : Value) (cols : List (List Int)) (ps : List Int), ExM w x cs → KM w cv pv cols ps → Calls Tryd.prog 58 #[.agg cs.toArray, cv, pv] w fun e w' => e = .returned (.bool (knownE cols ps x)) ∧ Below w.heap.size w w'
  | 0, x, h, _, _, _, _, _, _, _, _, _ => absurd h (by have := deep_pos x; omega)
  | k + 1, .mk op v rel col n s l, hd, hok, cs, w, cv, pv, cols, ps, h, hk => by
    rw [ExM.iff] at h
    obtain ⟨-, q, c, rfl, -, hl⟩ := h
    rw [Ex.okAll, Bool.and_eq_true] at hok
    rw [Ex.deep] at hd
    match l, hl, hok, hd with
    | [], _, hok, _ =>
      by_cases e2 : op = 2
      · have hr := rel_ok hok.1 e2
        have hc := col_ok hok.1 e2
        obtain ⟨r, rfl⟩ : ∃ r : Nat, rel = (r : Int) := ⟨rel.toNat, by omega⟩
        obtain ⟨m, rfl⟩ : ∃ m : Nat, col = (m : Int) := ⟨col.toNat, by omega⟩
        exact rknown_col op v n s q c w cv pv cols ps hk e2 r m
      · by_cases e3 : op = 3
        · have hn := n_ok hok.1 e3
          exact rknown_param op v rel col n s q c w cv pv cols ps hk e3 (n - 1).toNat (by omega)
        · exact rknown_plain op v rel col n s q c w cv pv cols ps hk e2 e3
    | [x], hl, hok, hd =>
      have hx : okL [x] = true := hok.2
      rw [okL, okL, Bool.and_true] at hx
      rw [deepL, deepL] at hd
      have h2 := op_two hok.1 (by simp)
      have h3 : op ≠ 3 := fun e => by have := (head_parts hok.1).1; rw [e] at this; simp [wantsOf] at this
      exact rknown_one op v rel col n s x q c w cv pv cols ps hk h2 h3 hl (fun cs w hx' hk' => rknown_any k x (by omega) hx cs w cv pv cols ps hx' hk')
    | [x, y], hl, hok, hd =>
      have hx : okL [x, y] = true := hok.2
      rw [okL, okL, okL, Bool.and_true, Bool.and_eq_true] at hx
      rw [deepL, deepL, deepL] at hd
      have h2 := op_two hok.1 (by simp)
      have h3 : op ≠ 3 := fun e => by have := (head_parts hok.1).1; rw [e] at this; simp [wantsOf] at this
      exact rknown_two op v rel col n s x y q c w cv pv cols ps hk h2 h3 hl (fun cs w hx' hk' => rknown_any k x (by omega) hx.1 cs w cv pv cols ps hx' hk') (fun cs w hx' hk' => rknown_any k y (by omega) hx.2 cs w cv pv cols ps hx' hk')
    | _ :: _ :: _ :: r, _, hok, _ =>
      have := head_two hok.1
      simp only [List.length_cons] at this
      omega

end Go.Proofs.YthdnbcdcfaocmaaDoor
