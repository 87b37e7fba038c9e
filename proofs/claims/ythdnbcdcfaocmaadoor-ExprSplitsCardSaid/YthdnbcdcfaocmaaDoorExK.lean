/- The reference: whether all columns and parameters are there (known): where there are operands. -/
import Derived.Test.YthdnbcdcfaocmaaDoorExH
import Derived.Test.YthdnbcdcfaocmaaDoorStO
namespace Go.Proofs.YthdnbcdcfaocmaaDoor
open Go.RowKit
set_option maxRecDepth 100000

/-- Where the columns' kinds and the parameters' kinds lie. -/
def KM (w : World) (cv pv : Value) (cols : List (List Int)) (ps : List Int) : Prop :=
  (∃ q c, cv = .slice q cols.length c ∧ cols.length ≤ c ∧ c ≤ 9223372036854775807 ∧ ListsA w 0 w.heap.size q cols) ∧ ∃ q c, pv = .slice q ps.length c ∧ ps.length ≤ c ∧ c ≤ 9223372036854775807 ∧ IntsA w 0 w.heap.size q ps
theorem KM.on {w w' : World} {cv pv : Value} {cols : List (List Int)} {ps : List Int} (h : KM w cv pv cols ps) (hb : Below w.heap.size w w') : KM w' cv pv cols ps := by
  obtain ⟨⟨q, c, h1, h2, h3, h4⟩, q', c', h5, h6, h7, h8⟩ := h
  refine ⟨⟨q, c, h1, h2, h3, ?_⟩, q', c', h5, h6, h7, ?_⟩
  · refine ArrA.imp (ArrA.wide (ListsA.same h4 (Same.of hb (Nat.le_refl _))) (Nat.le_refl _) hb.size) fun g o l _ _ hl => ?_
    obtain ⟨p, c, a, b, d, e⟩ := hl
    exact ⟨p, c, a, b, d, ArrA.wide e (Nat.le_refl _) hb.size⟩
  · exact ArrA.wide (IntsA.same h8 (Same.of hb (Nat.le_refl _))) (Nat.le_refl _) hb.size
def leafK (op rel col n : Int) (cols : List (List Int)) (ps : List Int) : Option Int :=
  if op = 2 then (cols[rel.toNat]?).bind fun l => l[col.toNat]? else if op = 3 then ps[(n - 1).toNat]? else some 0
def leafOk : Option Int → Bool
  | none => false
  | some k => decide (0 ≤ k) && decide (k ≤ 3)
mutual
def knownE (cols : List (List Int)) (ps : List Int) : Ex → Bool
  | .mk op _ rel col n _ l => leafOk (leafK op rel col n cols ps) && knownL cols ps l
def knownL (cols : List (List Int)) (ps : List Int) : List Ex → Bool
  | [] => true
  | x :: r => knownE cols ps x && knownL cols ps r
end
theorem known_other {op : Int} {v : Val} {rel col n : Int} {s : ByteArray} {l : List Ex} {cols : List (List Int)} {ps : List Int} (h2 : op ≠ 2) (h3 : op ≠ 3) : knownE cols ps (.mk op v rel col n s l) = knownL cols ps l := by
  rw [knownE, leafK, if_neg h2, if_neg h3]
  rfl

set_option maxHeartbeats 8000000 in
theorem rknown_one (op : Int) (v : Val) (rel col n : Int) (s : ByteArray) (x : Ex) (q : Option Addr) (c : Nat) (w : World) (cv pv : Value) (cols : List (List Int)) (ps : List Int) (hk : KM w cv pv cols ps) (e2 : op ≠ 2) (e3 : op ≠ 3) (hl : ExL w q 0 [x]) (IHx : ∀ (cs : List Value) (w : World), ExM w x cs → KM w cv pv cols ps → Calls Tryd.prog 58 #[.agg cs.toArray, cv, pv] w fun e w' => e = .returned (.bool (knownE cols ps x)) ∧ Below w.heap.size w w') : Calls Tryd.prog 58 #[.agg (exCells op v rel col n s q ([x] : List Ex).length c).toArray, cv, pv] w fun e w' => e = .returned (.bool (knownE cols ps (.mk op v rel col n s [x]))) ∧ Below w.heap.size w w' := by
  have HS := Lib.hid (known_other (v := v) (rel := rel) (col := col) (n := n) (s := s) (l := [x]) (cols := cols) (ps := ps) e2 e3)
  have qop2 : (op == 2) = false := by rw [beq_eq_false_iff_ne]; exact e2
  have qop3 : (op == 3) = false := by rw [beq_eq_false_iff_ne]; exact e3
  have HK := Lib.hid hk
  clear e2 e3 hk
  have HL := Lib.hid hl
  clear hl
  have HIx := Lib.hid IHx
  clear IHx
  simp only [List.length_cons, List.length_nil, Nat.zero_add]
  have E0 := EB.new w op v rel col n s q 1 c 26
  have B0 : Below w.heap.size w (w.alloc (.cells (exCells op v rel col n s q 1 c).toArray 26)) := ext_alloc (ext_refl _) _
  obtain ⟨W, hW⟩ : ∃ W, W = w.alloc (.cells (exCells op v rel col n s q 1 c).toArray 26) := ⟨_, rfl⟩
  rw [← hW] at E0 B0
  go_enter Tryd.func58, Tryd.ntmps58
  go_upto_region 1 with fail
  rw [← hW]
  clear hW
  obtain ⟨g, hg⟩ : ∃ g, g = w.heap.size := ⟨_, rfl⟩
  have HB := Lib.hid B0
  rw [← hg] at E0
  rw [← hg]
  clear B0 hg
  have HE := Lib.hid E0
  obtain ⟨lt, c0, c1, c2, c3, c4, c5, c6, c7, c8⟩ := E0
  have hl_0 := ExL.ext HB.out _ _ _ HL.out
  have HKW := Lib.hid (HK.out.on HB.out)
  have hl_ := ExL.at_ (j := 0) (x := x) hl_0 rfl
  obtain ⟨g0, off0, cs0, hq0, hg0, hx0, hcell⟩ := hl_
  subst hq0
  have HX0 := Lib.hid hx0
  obtain ⟨op1, v1, rel1, col1, n1, s1, l1⟩ := x
  rw [ExM.iff] at hx0
  obtain ⟨-, qq0, cc0, rfl, -, -⟩ := hx0
  have f0 := hcell 0 _ rfl
  have f1 := hcell 1 _ rfl
  have f2 := hcell 2 _ rfl
  have f3 := hcell 3 _ rfl
  have f4 := hcell 4 _ rfl
  have f5 := hcell 5 _ rfl
  have f6 := hcell 6 _ rfl
  have f7 := hcell 7 _ rfl
  have f8 := hcell 8 _ rfl
  simp only [Nat.zero_mul, Nat.add_zero] at f0 f1 f2 f3 f4 f5 f6 f7 f8
  clear hcell
  clear hl_0
  go_wp2_with fail
  refine wp_loop_rounds 2 ?_
  rw [rounds_succ]
  go_wp2_with fail
  refine (HIx.out _ _ HX0.out HKW.out).mono ?_
  rintro e Y ⟨he, hbY⟩
  have HBY := Lib.hid (HB.out.trans (hbY.mono HB.out.size))
  have EY := HE.out.on hbY
  clear hbY
  clear f0 f1 f2 f3 f4 f5 f6 f7 f8 c0 c1 c2 c3 c4 c5 c6 c7 c8 lt
  obtain ⟨lt, c0, c1, c2, c3, c4, c5, c6, c7, c8⟩ := EY
  cases hs : knownE cols ps (.mk op1 v1 rel1 col1 n1 s1 l1) with
  | false =>
    have HQ := Lib.hid hs
    rw [hs] at he
    clear hs
    subst he
    go_wp2_with fail
    refine bodyPost_ret (v := .bool false) (by simp [results, Tryd.results58, go_sem]) rfl ⟨by rw [HS.out, knownL, HQ.out, Bool.false_and], HBY.out⟩
  | true =>
    have HQ := Lib.hid hs
    rw [hs] at he
    clear hs
    subst he
    go_wp2_with fail
    rw [rounds_succ]
    go_wp2_with fail
    refine bodyPost_ret (v := .bool true) (by simp [results, Tryd.results58, go_sem]) rfl ⟨by rw [HS.out, knownL, knownL, HQ.out, Bool.true_and], HBY.out⟩

set_option maxHeartbeats 8000000 in
theorem rknown_two (op : Int) (v : Val) (rel col n : Int) (s : ByteArray) (x : Ex) (y : Ex) (q : Option Addr) (c : Nat) (w : World) (cv pv : Value) (cols : List (List Int)) (ps : List Int) (hk : KM w cv pv cols ps) (e2 : op ≠ 2) (e3 : op ≠ 3) (hl : ExL w q 0 [x, y]) (IHx : ∀ (cs : List Value) (w : World), ExM w x cs → KM w cv pv cols ps → Calls Tryd.prog 58 #[.agg cs.toArray, cv, pv] w fun e w' => e = .returned (.bool (knownE cols ps x)) ∧ Below w.heap.size w w') (IHy : ∀ (cs : List Value) (w : World), ExM w y cs → KM w cv pv cols ps → Calls Tryd.prog 58 #[.agg cs.toArray, cv, pv] w fun e w' => e = .returned (.bool (knownE cols ps y)) ∧ Below w.heap.size w w') : Calls Tryd.prog 58 #[.agg (exCells op v rel col n s q ([x, y] : List Ex).length c).toArray, cv, pv] w fun e w' => e = .returned (.bool (knownE cols ps (.mk op v rel col n s [x, y]))) ∧ Below w.heap.size w w' := by
  have HS := Lib.hid (known_other (v := v) (rel := rel) (col := col) (n := n) (s := s) (l := [x, y]) (cols := cols) (ps := ps) e2 e3)
  have qop2 : (op == 2) = false := by rw [beq_eq_false_iff_ne]; exact e2
  have qop3 : (op == 3) = false := by rw [beq_eq_false_iff_ne]; exact e3
  have HK := Lib.hid hk
  clear e2 e3 hk
  have HL := Lib.hid hl
  clear hl
  have HIx := Lib.hid IHx
  clear IHx
  have HIy := Lib.hid IHy
  clear IHy
  simp only [List.length_cons, List.length_nil, Nat.zero_add]
  have E0 := EB.new w op v rel col n s q 2 c 26
  have B0 : Below w.heap.size w (w.alloc (.cells (exCells op v rel col n s q 2 c).toArray 26)) := ext_alloc (ext_refl _) _
  obtain ⟨W, hW⟩ : ∃ W, W = w.alloc (.cells (exCells op v rel col n s q 2 c).toArray 26) := ⟨_, rfl⟩
  rw [← hW] at E0 B0
  go_enter Tryd.func58, Tryd.ntmps58
  go_upto_region 1 with fail
  rw [← hW]
  clear hW
  obtain ⟨g, hg⟩ : ∃ g, g = w.heap.size := ⟨_, rfl⟩
  have HB := Lib.hid B0
  rw [← hg] at E0
  rw [← hg]
  clear B0 hg
  have HE := Lib.hid E0
  obtain ⟨lt, c0, c1, c2, c3, c4, c5, c6, c7, c8⟩ := E0
  have hl_0 := ExL.ext HB.out _ _ _ HL.out
  have HLW := Lib.hid hl_0
  have HKW := Lib.hid (HK.out.on HB.out)
  have hl_ := ExL.at_ (j := 0) (x := x) hl_0 rfl
  obtain ⟨g0, off0, cs0, hq0, hg0, hx0, hcell⟩ := hl_
  subst hq0
  have HX0 := Lib.hid hx0
  obtain ⟨op1, v1, rel1, col1, n1, s1, l1⟩ := x
  rw [ExM.iff] at hx0
  obtain ⟨-, qq0, cc0, rfl, -, -⟩ := hx0
  have f0 := hcell 0 _ rfl
  have f1 := hcell 1 _ rfl
  have f2 := hcell 2 _ rfl
  have f3 := hcell 3 _ rfl
  have f4 := hcell 4 _ rfl
  have f5 := hcell 5 _ rfl
  have f6 := hcell 6 _ rfl
  have f7 := hcell 7 _ rfl
  have f8 := hcell 8 _ rfl
  simp only [Nat.zero_mul, Nat.add_zero] at f0 f1 f2 f3 f4 f5 f6 f7 f8
  clear hcell
  clear hl_0
  go_wp2_with fail
  refine wp_loop_rounds 3 ?_
  rw [rounds_succ]
  go_wp2_with fail
  refine (HIx.out _ _ HX0.out HKW.out).mono ?_
  rintro e Y ⟨he, hbY⟩
  have HBY := Lib.hid (HB.out.trans (hbY.mono HB.out.size))
  have EY := HE.out.on hbY
  have HLY := Lib.hid (ExL.ext hbY _ _ _ HLW.out)
  have HKY := Lib.hid (HKW.out.on hbY)
  clear hbY
  clear f0 f1 f2 f3 f4 f5 f6 f7 f8 c0 c1 c2 c3 c4 c5 c6 c7 c8 lt
  have HEY := Lib.hid EY
  obtain ⟨lt, c0, c1, c2, c3, c4, c5, c6, c7, c8⟩ := EY
  cases hs : knownE cols ps (.mk op1 v1 rel1 col1 n1 s1 l1) with
  | false =>
    have HQ := Lib.hid hs
    rw [hs] at he
    clear hs
    subst he
    go_wp2_with fail
    refine bodyPost_ret (v := .bool false) (by simp [results, Tryd.results58, go_sem]) rfl ⟨by rw [HS.out, knownL, HQ.out, Bool.false_and], HBY.out⟩
  | true =>
    have HQ := Lib.hid hs
    rw [hs] at he
    clear hs
    subst he
    go_wp2_with fail
    have hl_ := ExL.at_ (j := 1) (x := y) HLY.out rfl
    obtain ⟨g1, off1, cs1, hq1, hg1, hx1, hcell⟩ := hl_
    obtain ⟨rfl, rfl⟩ : g1 = g0 ∧ off1 = off0 := by cases hq1; exact ⟨rfl, rfl⟩
    clear hq1
    have HX1 := Lib.hid hx1
    obtain ⟨op2, v2, rel2, col2, n2, s2, l2⟩ := y
    rw [ExM.iff] at hx1
    obtain ⟨-, qq1, cc1, rfl, -, -⟩ := hx1
    have f0 := hcell 0 _ rfl
    have f1 := hcell 1 _ rfl
    have f2 := hcell 2 _ rfl
    have f3 := hcell 3 _ rfl
    have f4 := hcell 4 _ rfl
    have f5 := hcell 5 _ rfl
    have f6 := hcell 6 _ rfl
    have f7 := hcell 7 _ rfl
    have f8 := hcell 8 _ rfl
    clear hcell
    rw [rounds_succ]
    go_wp2_with fail
    refine (HIy.out _ _ HX1.out HKY.out).mono ?_
    rintro e Z ⟨he, hbZ⟩
    have HBZ := Lib.hid (HBY.out.trans (hbZ.mono HBY.out.size))
    have EZ := HEY.out.on hbZ
    clear hbZ
    clear f0 f1 f2 f3 f4 f5 f6 f7 f8 c0 c1 c2 c3 c4 c5 c6 c7 c8 lt
    obtain ⟨lt, c0, c1, c2, c3, c4, c5, c6, c7, c8⟩ := EZ
    cases hs : knownE cols ps (.mk op2 v2 rel2 col2 n2 s2 l2) with
    | false =>
      have HQ2 := Lib.hid hs
      rw [hs] at he
      clear hs
      subst he
      go_wp2_with fail
      refine bodyPost_ret (v := .bool false) (by simp [results, Tryd.results58, go_sem]) rfl ⟨by rw [HS.out, knownL, knownL, HQ.out, HQ2.out, Bool.false_and, Bool.true_and], HBZ.out⟩
    | true =>
      have HQ2 := Lib.hid hs
      rw [hs] at he
      clear hs
      subst he
      go_wp2_with fail
      rw [rounds_succ]
      go_wp2_with fail
      refine bodyPost_ret (v := .bool true) (by simp [results, Tryd.results58, go_sem]) rfl ⟨by rw [HS.out, knownL, knownL, knownL, HQ.out, HQ2.out, Bool.true_and, Bool.true_and], HBZ.out⟩

set_option maxHeartbeats 8000000 in
theorem rknown_plain (op : Int) (v : Val) (rel col n : Int) (s : ByteArray) (q : Option Addr) (c : Nat) (w : World) (cv pv : Value) (cols : List (List Int)) (ps : List Int) (hk : KM w cv pv cols ps) (e2 : op ≠ 2) (e3 : op ≠ 3) : Calls Tryd.prog 58 #[.agg (exCells op v rel col n s q ([] : List Ex).length c).toArray, cv, pv] w fun e w' => e = .returned (.bool (knownE cols ps (.mk op v rel col n s []))) ∧ Below w.heap.size w w' := by
  have HS := Lib.hid (known_other (v := v) (rel := rel) (col := col) (n := n) (s := s) (l := []) (cols := cols) (ps := ps) e2 e3)
  have qop2 : (op == 2) = false := by rw [beq_eq_false_iff_ne]; exact e2
  have qop3 : (op == 3) = false := by rw [beq_eq_false_iff_ne]; exact e3
  have HK := Lib.hid hk
  clear e2 e3 hk
  simp only [List.length_nil]
  have E0 := EB.new w op v rel col n s q 0 c 26
  have B0 : Below w.heap.size w (w.alloc (.cells (exCells op v rel col n s q 0 c).toArray 26)) := ext_alloc (ext_refl _) _
  obtain ⟨W, hW⟩ : ∃ W, W = w.alloc (.cells (exCells op v rel col n s q 0 c).toArray 26) := ⟨_, rfl⟩
  rw [← hW] at E0 B0
  go_enter Tryd.func58, Tryd.ntmps58
  go_upto_region 1 with fail
  rw [← hW]
  clear hW
  obtain ⟨g, hg⟩ : ∃ g, g = w.heap.size := ⟨_, rfl⟩
  have HB := Lib.hid B0
  rw [← hg] at E0
  rw [← hg]
  clear B0 hg
  have HE := Lib.hid E0
  obtain ⟨lt, c0, c1, c2, c3, c4, c5, c6, c7, c8⟩ := E0
  go_wp2_with fail
  refine wp_loop_rounds 1 ?_
  rw [rounds_succ]
  go_wp2_with fail
  refine bodyPost_ret (v := .bool true) (by simp [results, Tryd.results58, go_sem]) rfl ⟨by rw [HS.out, knownL], HB.out⟩

set_option maxHeartbeats 8000000 in
theorem rknown_param (op : Int) (v : Val) (rel col n : Int) (s : ByteArray) (q : Option Addr) (c : Nat) (w : World) (cv pv : Value) (cols : List (List Int)) (ps : List Int) (hk : KM w cv pv cols ps) (e3 : op = 3) (m : Nat) (hm : n = (m : Int) + 1) : Calls Tryd.prog 58 #[.agg (exCells op v rel col n s q ([] : List Ex).length c).toArray, cv, pv] w fun e w' => e = .returned (.bool (knownE cols ps (.mk op v rel col n s []))) ∧ Below w.heap.size w w' := by
  have HS := Lib.hid (show knownE cols ps (.mk op v rel col n s []) = leafOk (ps[m]?) by rw [knownE, leafK, if_neg (by omega), if_pos e3, knownL, Bool.and_true, show (n - 1).toNat = m by omega])
  have qop2 : (op == 2) = false := by rw [beq_eq_false_iff_ne]; omega
  have qop3 : (op == 3) = true := by rw [beq_iff_eq]; exact e3
  clear e3
  obtain ⟨-, pq, pc, rfl, hpc, hpm, hP⟩ := hk
  have HP := Lib.hid hP
  have HM := Lib.hid hm
  clear hP hm
  simp only [List.length_nil]
  have E0 := EB.new w op v rel col n s q 0 c 26
  have B0 : Below w.heap.size w (w.alloc (.cells (exCells op v rel col n s q 0 c).toArray 26)) := ext_alloc (ext_refl _) _
  obtain ⟨W, hW⟩ : ∃ W, W = w.alloc (.cells (exCells op v rel col n s q 0 c).toArray 26) := ⟨_, rfl⟩
  rw [← hW] at E0 B0
  go_enter Tryd.func58, Tryd.ntmps58
  go_upto_region 1 with fail
  rw [← hW]
  clear hW
  obtain ⟨g, hg⟩ : ∃ g, g = w.heap.size := ⟨_, rfl⟩
  have HB := Lib.hid B0
  rw [← hg] at E0
  rw [← hg]
  clear B0 hg
  have HE := Lib.hid E0
  obtain ⟨lt, c0, c1, c2, c3, c4, c5, c6, c7, c8⟩ := E0
  have hm := HM.out
  clear HM
  subst hm
  rcases Nat.lt_or_ge m ps.length with hlt | hge
  · have d0 : ¬ (m : Int) + 1 > (ps.length : Int) := by omega
    have hP := IntsA.same HP.out (Same.of HB.out (Nat.le_refl _))
    obtain ⟨gp, offp, hq, _, hgp, hcell⟩ := ArrA.at_ hP hlt
    subst hq
    unfold intC at hcell
    rw [Nat.mul_one] at hcell
    obtain ⟨k, hk⟩ : ∃ k, k = ps[m] := ⟨_, rfl⟩
    have HQ := Lib.hid (show ps[m]? = some k by rw [hk, List.getElem?_eq_getElem hlt])
    rw [← hk] at hcell
    have hm1 : (m : Int) + 1 - 1 = (m : Int) := by omega
    clear hk hP
    rcases Int.lt_or_le k 0 with h0 | h0
    · have HV := Lib.hid (show leafOk (some k) = false by rw [leafOk, decide_eq_false (by omega)]; rfl)
      go_wp2_with fail
      refine bodyPost_ret (v := .bool false) (by simp [results, Tryd.results58, go_sem]) rfl ⟨by rw [HS.out, HQ.out, HV.out], HB.out⟩
    · have h0' : ¬ k < 0 := by omega
      rcases Int.lt_or_le 3 k with h3 | h3
      · have h3' : k > 3 := h3
        have HV := Lib.hid (show leafOk (some k) = false by rw [leafOk, decide_eq_false (p := k ≤ 3) (by omega), Bool.and_false])
        go_wp2_with fail
        refine bodyPost_ret (v := .bool false) (by simp [results, Tryd.results58, go_sem]) rfl ⟨by rw [HS.out, HQ.out, HV.out], HB.out⟩
      · have HV := Lib.hid (show leafOk (some k) = true by rw [leafOk, decide_eq_true h0, decide_eq_true h3]; rfl)
        have h3' : ¬ k > 3 := by omega
        go_wp2_with fail
        refine wp_loop_rounds 1 ?_
        rw [rounds_succ]
        go_wp2_with fail
        refine bodyPost_ret (v := .bool true) (by simp [results, Tryd.results58, go_sem]) rfl ⟨by rw [HS.out, HQ.out, HV.out], HB.out⟩
  · have d0 : (m : Int) + 1 > (ps.length : Int) := by omega
    have HQ := Lib.hid (show ps[m]? = none from List.getElem?_eq_none hge)
    clear hge
    go_wp2_with fail
    refine bodyPost_ret (v := .bool false) (by simp [results, Tryd.results58, go_sem]) rfl ⟨by rw [HS.out, HQ.out, leafOk], HB.out⟩

end Go.Proofs.YthdnbcdcfaocmaaDoor
