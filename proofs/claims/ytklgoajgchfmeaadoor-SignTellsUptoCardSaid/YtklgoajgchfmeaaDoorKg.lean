/- A part of the proof. -/
import Derived.Test.YtklgoajgchfmeaaDoorKc
import Derived.Test.YtklgoajgchfmeaaDoorKf
import Derived.Laws.BytesString
import Derived.Test.YtklgoajgchfmeaaDoorExD
import Derived.StillTailTactics
import Derived.ProofKit
import Derived.Lib.SmallJoins
import Derived.Deep.Slices
import Derived.Deep.Strs
import Derived.SizedLaws
import Derived.BigQuiet
set_option linter.unusedVariables false
set_option linter.unusedSimpArgs false
namespace Go.Proofs.YtklgoajgchfmeaaDoor
open Go.RowKit
theorem Tryd.infoU8 : (Tryd.prog.info? 5).map (fun i => (i.zero, i.size, i.bytes)) = some (some (.int .u8 0), 1, 1) := by kernel_rfl
def OwnB (w : World) (base : Nat) (v : Value) (l : List Int) : Prop := w.ownsRow base 5 1 v l.length (l.map (Value.int .u8))
theorem OwnB.nil (w : World) (base : Nat) : OwnB w base (.slice none 0 0) [] := World.ownsRow_nil _ _ _ _
theorem OwnB.later {w w' : World} {base : Nat} {v : Value} {l : List Int} (h : OwnB w base v l) (hb : Below w.heap.size w w') : OwnB w' base v l := by
  obtain ⟨h1, h2⟩ := h
  refine ⟨h1, ?_⟩
  rcases h2 with h2 | ⟨g, cap, cur, hv, hg, hh, r⟩
  · exact .inl h2
  · have hlt : g < w.heap.size := by
      rcases Nat.lt_or_ge g w.heap.size with h | h
      · exact h
      · rw [Array.getElem?_eq_none h] at hh; cases hh
    exact .inr ⟨g, cap, cur, hv, hg, by rw [hb.block g hlt]; exact hh, r⟩
theorem OwnB.slice {w : World} {base : Nat} {v : Value} {l : List Int} (h : OwnB w base v l) : ∃ p n c, v = .slice p n c := by
  rcases h.2 with ⟨rfl, _⟩ | ⟨g, cap, cur, rfl, _⟩
  · exact ⟨_, _, _, rfl⟩
  · exact ⟨_, _, _, rfl⟩
theorem wp_append_byte2 {w : World} {ops : Array Oper} {rest : List Oper} {o : Oper} {a : Act} {Q : Exit → Act → World → Prop} (hgd : o.guard = none) (s x : Operand)
    (ho : o.op = .call { callee := .builtin .append, args := #[s, x], argTypes := #[62, 62] }) (base : Nat) (v : Value) (l : List Int) (hs : a.eval s = v) (hown : OwnB w base v l)
    (y : Int) (g c : Nat) (hx : a.eval x = .slice (some ⟨g, 0, none⟩) 1 c) (hc : w.cell? ⟨g, 0, none⟩ = some (.int .u8 y)) (hlen : l.length < 1099511627776) (hbase : base ≤ w.heap.size)
    (h : ∀ v' w', OwnB w' base v' (l ++ [y]) → w.grownBy w' v.ownBlock → Below base w w' → wpList Tryd.prog ops Q rest (a.put o.dst v') w') : wpList Tryd.prog ops Q (o :: rest) a w := by
  obtain ⟨i0, hi, hz0, hz1, hz2⟩ := info_parts Tryd.infoU8
  refine wpList_append_own w hgd s x 62 ho base 5 i0 (.int .u8 0) 1 1 Tryd.underlying62 hi hz0 hz1 hz2 rfl (by decide) v l.length _ hs hown ⟨g, 0, none⟩ 1 c [.int .u8 y] hx rfl ?_ ?_ ?_ ?_ hbase ?_
  · intro j u hj
    match j, hj with
    | 0, hj => simp at hj; subst hj; simpa [Addr.add] using hc
  · intro u hu
    simp at hu
    subst hu
    rfl
  · unfold maxLen; omega
  · omega
  · intro v' w' h1 h2 _
    refine h v' w' ?_ h2 ((Below.refl _ _).grown h2 hbase fun k hk => (hown.lt _ hk).1)
    unfold OwnB
    rw [List.length_append, List.map_append]
    exact h1
open Go.RowKit
set_option maxRecDepth 100000
abbrev toJ (l : Bs) : List Int := l.map fun b => (b.toNat : Int)
theorem toJ_app (a b : Bs) : toJ (a ++ b) = toJ a ++ toJ b := List.map_append
theorem toJ_push (l : Bs) : ∀ acc : ByteArray, (toJ l).foldl (fun (r : ByteArray) (n : Int) => r.push (UInt8.ofNat n.toNat)) acc = ⟨acc.data ++ l.toArray⟩ := by
  induction l with
  | nil => intro acc; simp [toJ]
  | cons b l ih =>
    intro acc
    have := ih (acc.push b)
    unfold toJ at this ⊢
    simp only [List.map_cons, List.foldl_cons, Int.toNat_natCast, UInt8.ofNat_toNat]
    rw [this]
    simp [ByteArray.push]
theorem conv_own {w : World} {base : Nat} {v : Value} {l : Bs} (h : OwnB w base v (toJ l)) : (convert 62 9 v).run Tryd.prog w = .ok (.string (bsB l)) w := by
  have h' := h
  obtain ⟨h1, h2⟩ := h'
  rcases h2 with ⟨rfl, h0⟩ | ⟨g, cap, cur, rfl, hb, hg, hn, hm, hc, ht⟩
  · have : l = [] := by rw [List.length_map] at h0; exact List.eq_nil_of_length_eq_zero h0
    subst this
    rw [run_convert_bytes_string w 62 9 5 none 0 0 Tryd.underlying62 Tryd.underlying5 Tryd.underlying9]
    rfl
  · rw [run_convert_bytes_string w 62 9 5 _ _ _ Tryd.underlying62 Tryd.underlying5 Tryd.underlying9]
    have hl : (loadCells ⟨g, 0, none⟩ (toJ l).length).run Tryd.prog w = .ok ((toJ l).map (Value.int .u8)).toArray w := by
      have := run_loadCells_list (P := Tryd.prog) w ⟨g, 0, none⟩ ((toJ l).map (Value.int .u8)) (fun j u hu => World.ownsRow.cells h (g := g) rfl j u hu)
      rwa [List.length_map] at this
    rw [run_bytesToString w _ _ cap (toJ l) hl, toJ_push]
    simp
open Go.RowKit
set_option maxRecDepth 100000
theorem bits_or_nat {a b : Nat} (ha : a < 65536) (hb : b < 65536) : bits .or .i64 (a : Int) (b : Int) = ((a ||| b : Nat) : Int) := by
  have h : a ||| b < 2 ^ 16 := Nat.or_lt_two_pow (by omega) (by omega)
  change IntKind.wrap .i64 ((BitVec.ofInt 64 (a : Int) ||| BitVec.ofInt 64 (b : Int)).toNat : Int) = _
  rw [BitVec.ofInt_natCast, BitVec.ofInt_natCast, BitVec.toNat_or, BitVec.toNat_ofNat, BitVec.toNat_ofNat, Nat.mod_eq_of_lt (by omega), Nat.mod_eq_of_lt (by omega)]
  rw [IntKind.wrap_i64]
  try unfold wrap64
  omega
theorem rel_ok {op : Int} {v : Val} {rel col n : Int} {s : ByteArray} {len : Nat} (h : headOk op v rel col n s len = true) (h2 : op = 2) : 0 ≤ rel ∧ rel ≤ 15 := by
  obtain ⟨_, _, _, h⟩ := head_parts h
  rcases h with ⟨h1, _⟩ | ⟨_, ⟨_, h1⟩ | ⟨h1, _⟩ | h1⟩
  · omega
  · exact ⟨h1.1, h1.2.1⟩
  · omega
  · omega
theorem op_two {op : Int} {v : Val} {rel col n : Int} {s : ByteArray} {len : Nat} (h : headOk op v rel col n s len = true) (hl : 0 < len) : op ≠ 2 := by
  rintro rfl
  have := (head_parts h).1
  have h2 : wantsOf 2 = 0 := rfl
  rw [h2] at this
  omega
mutual
theorem tabs_lt : ∀ (x : Ex), x.okAll = true → x.tabs < 65536
  | .mk op v rel col n s l, h => by
    rw [Ex.okAll, Bool.and_eq_true] at h
    have h1 := tabsL_lt l h.2
    rw [Ex.tabs]
    have h2 : (if op = 2 then 2 ^ rel.toNat else 0) < 2 ^ 16 := by
      split
      · rename_i e
        have := rel_ok h.1 e
        exact Nat.pow_lt_pow_right (by omega) (by omega)
      · omega
    exact Nat.or_lt_two_pow (n := 16) h2 h1
theorem tabsL_lt : ∀ (l : List Ex), okL l = true → tabsL l < 65536
  | [], _ => by rw [tabsL]; omega
  | x :: r, h => by
    rw [okL, Bool.and_eq_true] at h
    rw [tabsL]
    exact Nat.or_lt_two_pow (n := 16) (tabs_lt x h.1) (tabsL_lt r h.2)
end
theorem pow_in {rel : Int} (h : rel ≤ 15) : wrap64 (2 ^ rel.toNat) = 2 ^ rel.toNat := by
  have h2 : 2 ^ rel.toNat < 2 ^ 16 := Nat.pow_lt_pow_right (by omega) (by omega)
  have e : (2 : Int) ^ rel.toNat = ((2 ^ rel.toNat : Nat) : Int) := by simp
  rw [e]
  generalize 2 ^ rel.toNat = m at h2 ⊢
  clear e
  unfold wrap64
  omega
theorem tabs_ref {v : Val} {rel col n : Int} {s : ByteArray} : ((Ex.mk 2 v rel col n s []).tabs : Int) = 2 ^ rel.toNat := by
  rw [Ex.tabs, if_pos rfl, tabsL, Nat.or_zero]
  simp
theorem tabs_other {op : Int} {v : Val} {rel col n : Int} {s : ByteArray} {l : List Ex} (h : op ≠ 2) : (Ex.mk op v rel col n s l).tabs = tabsL l := by
  rw [Ex.tabs, if_neg h, Nat.zero_or]
set_option maxHeartbeats 8000000 in
theorem rtables_zero (op : Int) (v : Val) (rel col n : Int) (s : ByteArray) (q : Option Addr) (c : Nat) (w : World) (hh : headOk op v rel col n s ([] : List Ex).length = true) : Calls Tryd.prog 43 #[.agg (exCells op v rel col n s q ([] : List Ex).length c).toArray] w fun e w' => e = .returned (.int .i64 ((Ex.mk op v rel col n s []).tabs : Int)) ∧ Below w.heap.size w w' := by
  have H2 := Lib.hid (rel_ok hh)
  clear hh
  simp only [List.length_nil]
  have E0 := EB.new w op v rel col n s q 0 c 26
  have B0 : Below w.heap.size w (w.alloc (.cells (exCells op v rel col n s q 0 c).toArray 26)) := ext_alloc (ext_refl _) _
  obtain ⟨W, hW⟩ : ∃ W, W = w.alloc (.cells (exCells op v rel col n s q 0 c).toArray 26) := ⟨_, rfl⟩
  rw [← hW] at E0 B0
  go_enter Tryd.func43, Tryd.ntmps43
  go_upto_region 1 with fail
  rw [← hW]
  clear hW
  obtain ⟨g, hg⟩ : ∃ g, g = w.heap.size := ⟨_, rfl⟩
  have HB := Lib.hid B0
  rw [← hg] at E0
  rw [← hg]
  clear B0 hg
  have HE := Lib.hid E0
  obtain ⟨lt, c0, c1, c2, c3, c4, c5, c6, c7, c8⟩ := E0
  by_cases e2 : op = 2
  · have hr := H2.out e2
    have HS := Lib.hid (show ((Ex.mk op v rel col n s []).tabs : Int) = 2 ^ rel.toNat by rw [e2]; exact tabs_ref)
    obtain ⟨hr1, hr2⟩ := hr
    have HW := Lib.hid (pow_in hr2)
    have qop2 : (op == 2) = true := by rw [beq_iff_eq]; exact e2
    clear e2
    go_wp2_with fail
    clear hr1 hr2
    refine wp_loop_rounds 1 ?_
    rw [rounds_succ]
    go_wp2_with fail
    refine bodyPost_ret (v := .int .i64 (wrap64 (2 ^ rel.toNat))) (by simp [results, Tryd.results43, go_sem]) rfl ⟨by rw [HS.out, HW.out], HB.out⟩
  · have HS := Lib.hid (show (Ex.mk op v rel col n s []).tabs = 0 by rw [tabs_other e2, tabsL])
    have qop2 : (op == 2) = false := by rw [beq_eq_false_iff_ne]; exact e2
    clear e2
    go_wp2_with fail
    refine wp_loop_rounds 1 ?_
    rw [rounds_succ]
    go_wp2_with fail
    refine bodyPost_ret (v := .int .i64 0) (by simp [results, Tryd.results43, go_sem]) rfl ⟨by rw [HS.out]; rfl, HB.out⟩
set_option maxHeartbeats 8000000 in
theorem rtables_one (op : Int) (v : Val) (rel col n : Int) (s : ByteArray) (x : Ex) (q : Option Addr) (c : Nat) (w : World) (hl : ExL w q 0 [x]) (IHx : ∀ (cs : List Value) (w : World), ExM w x cs → Calls Tryd.prog 43 #[.agg cs.toArray] w fun e w' => e = .returned (.int .i64 (x.tabs : Int)) ∧ Below w.heap.size w w') (hh : headOk op v rel col n s ([x] : List Ex).length = true) (okx : x.okAll = true) : Calls Tryd.prog 43 #[.agg (exCells op v rel col n s q ([x] : List Ex).length c).toArray] w fun e w' => e = .returned (.int .i64 ((Ex.mk op v rel col n s [x]).tabs : Int)) ∧ Below w.heap.size w w' := by
  have e2 := op_two hh (by simp)
  have HS := Lib.hid (show (Ex.mk op v rel col n s [x]).tabs = x.tabs by rw [tabs_other e2, tabsL, tabsL, Nat.or_zero])
  have qop2 : (op == 2) = false := by rw [beq_eq_false_iff_ne]; exact e2
  clear e2
  have hbo : bits .or .i64 0 (x.tabs : Int) = (x.tabs : Int) := (bits_or_nat (a := 0) (by omega) (tabs_lt x okx)).trans (by rw [Nat.zero_or])
  clear hh okx
  generalize x.tabs = t1 at HS hbo IHx
  have HL := Lib.hid hl
  clear hl
  have HIx := Lib.hid IHx
  clear IHx
  simp only [List.length_cons, List.length_nil, Nat.zero_add]
  have E0 := EB.new w op v rel col n s q 1 c 26
  have B0 : Below w.heap.size w (w.alloc (.cells (exCells op v rel col n s q 1 c).toArray 26)) := ext_alloc (ext_refl _) _
  obtain ⟨W, hW⟩ : ∃ W, W = w.alloc (.cells (exCells op v rel col n s q 1 c).toArray 26) := ⟨_, rfl⟩
  rw [← hW] at E0 B0
  go_enter Tryd.func43, Tryd.ntmps43
  go_upto_region 1 with fail
  rw [← hW]
  clear hW
  obtain ⟨g, hg⟩ : ∃ g, g = w.heap.size := ⟨_, rfl⟩
  have HB := Lib.hid B0
  rw [← hg] at E0
  rw [← hg]
  clear B0 hg
  have HE := Lib.hid E0
  obtain ⟨lt, c0, c1, c2, c3, c4, c5, c6, c7, c8⟩ := E0
  have hl_0 := ExL.ext HB.out _ _ _ HL.out
  have hl_ := ExL.at_ (j := 0) (x := x) hl_0 rfl
  obtain ⟨g0, off0, cs0, hq0, hg0, hx0, hcell⟩ := hl_
  subst hq0
  have HX0 := Lib.hid hx0
  obtain ⟨op1, v1, rel1, col1, n1, s1, l1⟩ := x
  rw [ExM.iff] at hx0
  obtain ⟨-, qq0, cc0, rfl, -, -⟩ := hx0
  have f0 := hcell 0 _ rfl
  have f1 := hcell 1 _ rfl
  have f2 := hcell 2 _ rfl
  have f3 := hcell 3 _ rfl
  have f4 := hcell 4 _ rfl
  have f5 := hcell 5 _ rfl
  have f6 := hcell 6 _ rfl
  have f7 := hcell 7 _ rfl
  have f8 := hcell 8 _ rfl
  simp only [Nat.zero_mul, Nat.add_zero] at f0 f1 f2 f3 f4 f5 f6 f7 f8
  clear hcell
  clear hl_0
  go_wp2_with fail
  refine wp_loop_rounds 2 ?_
  rw [rounds_succ]
  go_wp2_with fail
  refine (HIx.out _ _ HX0.out).mono ?_
  rintro e Y ⟨rfl, hbY⟩
  have HBY := Lib.hid (HB.out.trans (hbY.mono HB.out.size))
  have EY := HE.out.on hbY
  clear hbY
  clear f0 f1 f2 f3 f4 f5 f6 f7 f8 c0 c1 c2 c3 c4 c5 c6 c7 c8 lt
  obtain ⟨lt, c0, c1, c2, c3, c4, c5, c6, c7, c8⟩ := EY
  go_wp2_with fail
  rw [rounds_succ]
  go_wp2_with fail
  refine bodyPost_ret (v := .int .i64 (t1 : Int)) (by simp [results, Tryd.results43, go_sem]) rfl ⟨by rw [HS.out], HBY.out⟩
set_option maxHeartbeats 8000000 in
theorem rtables_two (op : Int) (v : Val) (rel col n : Int) (s : ByteArray) (x : Ex) (y : Ex) (q : Option Addr) (c : Nat) (w : World) (hl : ExL w q 0 [x, y]) (IHx : ∀ (cs : List Value) (w : World), ExM w x cs → Calls Tryd.prog 43 #[.agg cs.toArray] w fun e w' => e = .returned (.int .i64 (x.tabs : Int)) ∧ Below w.heap.size w w') (IHy : ∀ (cs : List Value) (w : World), ExM w y cs → Calls Tryd.prog 43 #[.agg cs.toArray] w fun e w' => e = .returned (.int .i64 (y.tabs : Int)) ∧ Below w.heap.size w w') (hh : headOk op v rel col n s ([x, y] : List Ex).length = true) (okx : x.okAll = true) (oky : y.okAll = true) : Calls Tryd.prog 43 #[.agg (exCells op v rel col n s q ([x, y] : List Ex).length c).toArray] w fun e w' => e = .returned (.int .i64 ((Ex.mk op v rel col n s [x, y]).tabs : Int)) ∧ Below w.heap.size w w' := by
  have e2 := op_two hh (by simp)
  have HS := Lib.hid (show (Ex.mk op v rel col n s [x, y]).tabs = x.tabs ||| y.tabs by rw [tabs_other e2, tabsL, tabsL, tabsL, Nat.or_zero])
  have qop2 : (op == 2) = false := by rw [beq_eq_false_iff_ne]; exact e2
  clear e2
  have hbo : bits .or .i64 0 (x.tabs : Int) = (x.tabs : Int) := (bits_or_nat (a := 0) (by omega) (tabs_lt x okx)).trans (by rw [Nat.zero_or])
  have hbp : bits .or .i64 (x.tabs : Int) (y.tabs : Int) = ((x.tabs ||| y.tabs : Nat) : Int) := bits_or_nat (tabs_lt x okx) (tabs_lt y oky)
  clear hh okx oky
  generalize x.tabs ||| y.tabs = t3 at HS hbp
  generalize x.tabs = t1 at hbo hbp IHx
  generalize y.tabs = t2 at hbp IHy
  have HL := Lib.hid hl
  clear hl
  have HIx := Lib.hid IHx
  clear IHx
  have HIy := Lib.hid IHy
  clear IHy
  simp only [List.length_cons, List.length_nil, Nat.zero_add]
  have E0 := EB.new w op v rel col n s q 2 c 26
  have B0 : Below w.heap.size w (w.alloc (.cells (exCells op v rel col n s q 2 c).toArray 26)) := ext_alloc (ext_refl _) _
  obtain ⟨W, hW⟩ : ∃ W, W = w.alloc (.cells (exCells op v rel col n s q 2 c).toArray 26) := ⟨_, rfl⟩
  rw [← hW] at E0 B0
  go_enter Tryd.func43, Tryd.ntmps43
  go_upto_region 1 with fail
  rw [← hW]
  clear hW
  obtain ⟨g, hg⟩ : ∃ g, g = w.heap.size := ⟨_, rfl⟩
  have HB := Lib.hid B0
  rw [← hg] at E0
  rw [← hg]
  clear B0 hg
  have HE := Lib.hid E0
  obtain ⟨lt, c0, c1, c2, c3, c4, c5, c6, c7, c8⟩ := E0
  have hl_0 := ExL.ext HB.out _ _ _ HL.out
  have HLW := Lib.hid hl_0
  have hl_ := ExL.at_ (j := 0) (x := x) hl_0 rfl
  obtain ⟨g0, off0, cs0, hq0, hg0, hx0, hcell⟩ := hl_
  subst hq0
  have HX0 := Lib.hid hx0
  obtain ⟨op1, v1, rel1, col1, n1, s1, l1⟩ := x
  rw [ExM.iff] at hx0
  obtain ⟨-, qq0, cc0, rfl, -, -⟩ := hx0
  have f0 := hcell 0 _ rfl
  have f1 := hcell 1 _ rfl
  have f2 := hcell 2 _ rfl
  have f3 := hcell 3 _ rfl
  have f4 := hcell 4 _ rfl
  have f5 := hcell 5 _ rfl
  have f6 := hcell 6 _ rfl
  have f7 := hcell 7 _ rfl
  have f8 := hcell 8 _ rfl
  simp only [Nat.zero_mul, Nat.add_zero] at f0 f1 f2 f3 f4 f5 f6 f7 f8
  clear hcell
  clear hl_0
  go_wp2_with fail
  refine wp_loop_rounds 3 ?_
  rw [rounds_succ]
  go_wp2_with fail
  refine (HIx.out _ _ HX0.out).mono ?_
  rintro e Y ⟨rfl, hbY⟩
  have HBY := Lib.hid (HB.out.trans (hbY.mono HB.out.size))
  have EY := HE.out.on hbY
  have HLY := Lib.hid (ExL.ext hbY _ _ _ HLW.out)
  clear hbY
  clear f0 f1 f2 f3 f4 f5 f6 f7 f8 c0 c1 c2 c3 c4 c5 c6 c7 c8 lt
  have HEY := Lib.hid EY
  obtain ⟨lt, c0, c1, c2, c3, c4, c5, c6, c7, c8⟩ := EY
  go_wp2_with fail
  have hl_ := ExL.at_ (j := 1) (x := y) HLY.out rfl
  obtain ⟨g1, off1, cs1, hq1, hg1, hx1, hcell⟩ := hl_
  obtain ⟨rfl, rfl⟩ : g1 = g0 ∧ off1 = off0 := by cases hq1; exact ⟨rfl, rfl⟩
  clear hq1
  have HX1 := Lib.hid hx1
  obtain ⟨op2, v2, rel2, col2, n2, s2, l2⟩ := y
  rw [ExM.iff] at hx1
  obtain ⟨-, qq1, cc1, rfl, -, -⟩ := hx1
  have f0 := hcell 0 _ rfl
  have f1 := hcell 1 _ rfl
  have f2 := hcell 2 _ rfl
  have f3 := hcell 3 _ rfl
  have f4 := hcell 4 _ rfl
  have f5 := hcell 5 _ rfl
  have f6 := hcell 6 _ rfl
  have f7 := hcell 7 _ rfl
  have f8 := hcell 8 _ rfl
  clear hcell
  rw [rounds_succ]
  go_wp2_with fail
  refine (HIy.out _ _ HX1.out).mono ?_
  rintro e Z ⟨rfl, hbZ⟩
  have HBZ := Lib.hid (HBY.out.trans (hbZ.mono HBY.out.size))
  have EZ := HEY.out.on hbZ
  clear hbZ
  clear f0 f1 f2 f3 f4 f5 f6 f7 f8 c0 c1 c2 c3 c4 c5 c6 c7 c8 lt
  obtain ⟨lt, c0, c1, c2, c3, c4, c5, c6, c7, c8⟩ := EZ
  go_wp2_with fail
  rw [rounds_succ]
  go_wp2_with fail
  refine bodyPost_ret (v := .int .i64 (t3 : Int)) (by simp [results, Tryd.results43, go_sem]) rfl ⟨by rw [HS.out], HBZ.out⟩
theorem rtables_any : ∀ (k : Nat) (x : Ex), x.deep ≤ k → x.okAll = true → ∀ (cs : List Value) (w : World), ExM w x cs → Calls Tryd.prog 43 #[.agg cs.toArray] w fun e w' => e = .returned (.int .i64 (x.tabs : Int)) ∧ Below w.heap.size w w'
  | 0, x, h, _, _, _, _ => absurd h (by have := deep_pos x; omega)
  | k + 1, .mk op v rel col n s l, hd, hok, cs, w, h => by
    rw [ExM.iff] at h
    obtain ⟨-, q, c, rfl, -, hl⟩ := h
    rw [Ex.okAll, Bool.and_eq_true] at hok
    rw [Ex.deep] at hd
    match l, hl, hok, hd with
    | [], _, hok, _ => exact rtables_zero op v rel col n s q c w hok.1
    | [x], hl, hok, hd =>
      have hx : okL [x] = true := hok.2
      rw [okL, okL, Bool.and_true] at hx
      rw [deepL, deepL] at hd
      exact rtables_one op v rel col n s x q c w hl (rtables_any k x (by omega) hx) hok.1 hx
    | [x, y], hl, hok, hd =>
      have hx : okL [x, y] = true := hok.2
      rw [okL, okL, okL, Bool.and_true, Bool.and_eq_true] at hx
      rw [deepL, deepL, deepL] at hd
      exact rtables_two op v rel col n s x y q c w hl (rtables_any k x (by omega) hx.1) (rtables_any k y (by omega) hx.2) hok.1 hx.1 hx.2
    | _ :: _ :: _ :: r, _, hok, _ =>
      have := head_two hok.1
      simp only [List.length_cons] at this
      omega
def tablesE (x : Ex) : Nat := bif rightE x then x.tabs else 0
set_option maxHeartbeats 4000000 in
theorem tablesE_any (x : Ex) (cs : List Value) (w : World) (h : ExM w x cs) : Calls Tryd.prog 29 #[.agg cs.toArray] w fun e w' => e = .returned (.int .i64 (tablesE x : Int)) ∧ Below w.heap.size w w' := by
  obtain ⟨op, v, rel, col, n, s, l⟩ := x
  have hx := h
  rw [ExM.iff] at h
  obtain ⟨-, q, c, rfl, -, -⟩ := h
  have E0 := EB.new w op v rel col n s q l.length c 26
  have B0 : Below w.heap.size w (w.alloc (.cells (exCells op v rel col n s q l.length c).toArray 26)) := ext_alloc (ext_refl _) _
  have HX := Lib.hid (ExM.ext B0 _ _ hx)
  obtain ⟨W, hW⟩ : ∃ W, W = w.alloc (.cells (exCells op v rel col n s q l.length c).toArray 26) := ⟨_, rfl⟩
  rw [← hW] at E0 B0 HX
  have H := Lib.hid (rightE_any _ _ _ HX.out)
  go_enter Tryd.func29, Tryd.ntmps29
  go_upto_region 1 with fail
  rw [← hW]
  clear hW hx
  obtain ⟨g, hg⟩ : ∃ g, g = w.heap.size := ⟨_, rfl⟩
  have HB := Lib.hid B0
  rw [← hg] at E0
  rw [← hg]
  clear B0 hg
  have HE := Lib.hid E0
  obtain ⟨lt, c0, c1, c2, c3, c4, c5, c6, c7, c8⟩ := E0
  go_wp2_with fail
  refine H.out.mono ?_
  rintro e Y ⟨he, hbY⟩
  have HBY := Lib.hid (HB.out.trans (hbY.mono HB.out.size))
  have EY := HE.out.on hbY
  have HXY := Lib.hid (ExM.ext hbY _ _ HX.out)
  clear hbY lt c0 c1 c2 c3 c4 c5 c6 c7 c8
  obtain ⟨lt, c0, c1, c2, c3, c4, c5, c6, c7, c8⟩ := EY
  cases hs : rightE (.mk op v rel col n s l) with
  | false =>
    have HQ := Lib.hid hs
    rw [hs] at he
    clear hs
    subst he
    go_wp2_with fail
    refine bodyPost_ret (v := .int .i64 0) (by simp [results, Tryd.results29, go_sem]) rfl ⟨by rw [tablesE, HQ.out]; rfl, HBY.out⟩
  | true =>
    have HP := Lib.hid (rightE_parts hs)
    have HQ := Lib.hid hs
    rw [hs] at he
    clear hs
    subst he
    go_wp2_with fail
    refine (rtables_any _ _ (Nat.le_refl _) HP.out.1 _ _ HXY.out).mono ?_
    rintro e Z ⟨rfl, hbZ⟩
    have HBZ := Lib.hid (HBY.out.trans (hbZ.mono HBY.out.size))
    clear hbZ lt c0 c1 c2 c3 c4 c5 c6 c7 c8
    go_wp2_with fail
    refine bodyPost_ret (v := .int .i64 (Ex.tabs (.mk op v rel col n s l) : Nat)) (by simp [results, Tryd.results29, go_sem]) rfl ⟨by rw [tablesE, HQ.out]; rfl, HBZ.out⟩
open Go.ChangeShapes Go.WideShapes Go.ChangeAt Go.RowKit Go.Joins
set_option maxRecDepth 100000
theorem Tryd.own : ownKnob Tryd.prog.godebug = none := by kernel_rfl
theorem Tryd.laidOut : laidOutB Tryd.prog = true := by kernel_rfl
section
variable {H : Type} {enc : TypeId × Value → H}
theorem all_stay {W W' : World} (hb : Below W.heap.size W W') : ∀ {ts : List TypeId} {vs : List Value} {ds : List (DataW H)} {ps : List MemPlace},
    (∀ t ∈ ts, Tryd.prog.readableRec t = true ∧ t < Tryd.prog.types.size) → DataW.TrodAll enc Tryd.prog W 0 (fun _ => true) true ts vs ds ps → (∀ x ∈ ps, x.block < W.heap.size) →
    DataW.TrodAll enc Tryd.prog W' 0 (fun b => decide (b < W.heap.size)) true ts vs ds ps
  | [], [], [], _, _, h, _ => h
  | t :: ts, v :: vs, d :: ds, ps, hr, h, hlt => by
    obtain ⟨p, q, h1, h2, rfl⟩ := h
    have hp : ∀ x ∈ p, x.block < W.heap.size := fun x hx => hlt x (List.mem_append_left _ hx)
    have hq : ∀ x ∈ q, x.block < W.heap.size := fun x hx => hlt x (List.mem_append_right _ hx)
    exact ⟨p, q, Below.trod Tryd.laidOut (hr t List.mem_cons_self).1 (hr t List.mem_cons_self).2 h1 hb hp, all_stay hb (fun t' ht' => hr t' (List.mem_cons_of_mem _ ht')) h2 hq, rfl⟩
  | [], [], _ :: _, _, _, h, _ => h.elim
  | [], _ :: _, _, _, _, h, _ => h.elim
  | _ :: _, [], _, _, _, h, _ => h.elim
  | _ :: _, _ :: _, [], _, _, h, _ => h.elim
theorem post_law {f : Func} {s : ChangeSpec} {W W' : World} {args : Array Value} {ds gs : List (DataW H)} {before : List MemPlace} (hv : s.vars = [])
    (hW : DataW.Whole enc Tryd.prog f.params.toList s.vars false W args.toList ds gs before) (hfn : s.fn H ds = { results := [.lit (.bool true)], args := ds }) (hres : f.resultTypes = #[4])
    (hread : ∀ t ∈ f.params.toList, Tryd.prog.readableRec t = true ∧ t < Tryd.prog.types.size) (hb : Below W.heap.size W W') : s.post enc Tryd.prog f false true false false W args (.bool true) W' := by
  have hW' := hW
  obtain ⟨p, q, hA, hV, rfl, _, _⟩ := hW
  rw [hv] at hV
  obtain ⟨rfl, rfl⟩ := trodVars_none hV
  have hlt : ∀ x ∈ p, x.block < W.heap.size := fun x hx => hW'.lt x (List.mem_append_left _ hx)
  refine ⟨ds, [], p ++ [], [], p, [], hW', ?_, ?_, ?_, hb.frame _, fun h => by cases h⟩
  · rw [List.append_nil, hfn, hres]
    exact trodAll_mk1 (shut_bool Tryd.underlying4 true)
  · rw [List.append_nil, hfn]
    exact all_stay hb hread hA hlt
  · rw [List.append_nil, hfn, hv]
    exact rfl
theorem Tryd.cellsVal : Tryd.prog.cellsOf 23 = 3 := by kernel_rfl
theorem open_num {r : Reach} {b0 base : Nat} {W : World} {spare : Nat → Bool} {held : Bool} {v : Value} {d : DataW H} {p : List MemPlace} (hv : Value.okWide Tryd.prog W r b0 3 v) (h : DataW.Trod enc Tryd.prog W base spare held 3 v d p) :
    ∃ x : Int, v = .int .i64 x ∧ inR x = true := by
  obtain ⟨x, rfl, rfl, rfl, wx⟩ := open_int Tryd.underlying3 hv h
  exact ⟨x, rfl, by simpa [inR, Lit.wf, IntKind.min, IntKind.signed, IntKind.bits] using wx⟩
end
open Go.ChangeShapes Go.WideShapes Go.ChangeAt Go.RowKit Go.Joins Go.Deep
set_option maxRecDepth 100000
instance : Inhabited Val := ⟨nul⟩
section
variable {H : Type} {enc : TypeId × Value → H}
theorem cells_val {W : World} {base n : Nat} {spare : Nat → Bool} {held : Bool} {cs : List Value} {y : DataW H × List MemPlace} (h : DataW.trod enc Tryd.prog W base spare held n 23 cs = some y) :
    ∃ x : Val, cs = [.int .i64 x.k, .int .i64 x.n, .string x.s] ∧ inR x.k = true ∧ inR x.n = true ∧ x.s.size ≤ maxLen := by
  obtain ⟨y0, y1, y2, m, _, hl, h0, h1, h2⟩ := trod_struct3 Tryd.underlying23 h
  rw [Tryd.cellsVal] at hl
  match cs, hl with
  | [v0, v1, v2], _ =>
    obtain ⟨a, e0, _, wa⟩ := DataW.trod_int Tryd.underlying3 h0
    obtain ⟨b, e1, _, wb⟩ := DataW.trod_int Tryd.underlying3 h1
    obtain ⟨s, e2, _, hs⟩ := DataW.trod_string Tryd.underlying9 h2
    have k3 : Tryd.prog.cellsOf 3 = 1 := by kernel_rfl
    have k9 : Tryd.prog.cellsOf 9 = 1 := by kernel_rfl
    simp [k3, k9] at e0 e1 e2
    subst e0 e1 e2
    refine ⟨⟨a, b, s⟩, rfl, ?_, ?_, hs⟩
    · simpa [inR, Lit.wf, IntKind.min, IntKind.signed, IntKind.bits] using wa
    · simpa [inR, Lit.wf, IntKind.min, IntKind.signed, IntKind.bits] using wb
end
open Go.ChangeShapes Go.WideShapes Go.ChangeAt Go.RowKit Go.Joins Go.Deep
set_option maxRecDepth 100000
theorem weights_mem {H : Type} {P : Program} {e : TypeId} {l : List (DataW H)} {d : DataW H} (hd : d ∈ l) {n : Nat} (hn : n ∈ d.weights P e) : n ∈ DataW.weightsAll P e l := by
  induction l with
  | nil => cases hd
  | cons a l ih =>
    simp only [DataW.weightsAll, List.mem_append]
    rcases List.mem_cons.1 hd with rfl | h
    · exact .inl hn
    · exact .inr (ih h)
theorem addr_off (b off n : Nat) : (⟨b, off, none⟩ : Addr).add n = ⟨b, off + n, none⟩ := by
  unfold Addr.add
  split
  · rename_i h; subst h; rfl
  · rfl
theorem addr_here {W : World} {a : Addr} {v : Value} (h : W.cell? a = some v) : a = ⟨a.block, a.off, none⟩ ∧ a.block < W.heap.size := by
  refine ⟨?_, World.block_lt_of_cell? W a (by rw [h])⟩
  obtain ⟨b, o, s⟩ := a
  cases s with
  | none => rfl
  | some k =>
    simp only [World.cell?] at h
    split at h <;> simp at h
section
variable {H : Type} {enc : TypeId × Value → H}
theorem open_arr {α : Type} [Inhabited α] {t e : TypeId} {sz : Nat} (ht : Tryd.prog.underlying t = some (.slice e)) (hsz : Tryd.prog.cellsOf e = sz) (h0 : 0 < sz) {W : World} {base fuel : Nat} {spare : Nat → Bool} {held : Bool} {cs : List Value} {y : DataW H × List MemPlace}
    (P : Nat → Nat → α → Prop) (Q : α → Prop) (hf : DataW.trod enc Tryd.prog W base spare held fuel t cs = some y) (hz : ∀ n ∈ y.1.weights Tryd.prog t, n ≤ reachBytes)
    (hel : ∀ (cs : List Value) (y : DataW H × List MemPlace) (n : Nat), DataW.trod enc Tryd.prog W base spare held n e cs = some y → (∀ n ∈ y.1.weights Tryd.prog e, n ≤ reachBytes) → ∀ g o, (∀ (k : Nat) v, k < sz → cs[k]? = some v → W.cell? ⟨g, o + k, none⟩ = some v) → ∃ x, P g o x ∧ Q x) :
    ∃ (q : Option Addr) (l : List α) (c : Nat), cs = [.slice q l.length c] ∧ l.length ≤ c ∧ c ≤ 9223372036854775807 ∧ l.length * Tryd.prog.bytesOf e ≤ reachBytes ∧ ArrA 0 W.heap.size q sz l P ∧ ∀ x ∈ l, Q x := by
  rcases open_slice ht hf with ⟨hc, _⟩ | ⟨a, len, cap, m, n, D, Pl, hc, hb, hl, hm, hmm, hx, hi⟩
  · exact ⟨none, [], 0, hc, Nat.le_refl _, by omega, by simp, fun i hi => absurd hi (by simp), fun x hx => absurd hx (by simp)⟩
  · have hlm : len ≤ m := by rw [hmm]; split <;> omega
    rw [hsz] at hi
    subst hx
    have hcell : ∀ i, i < len → ∃ cs', (∀ k, k < sz → W.cell? (a.add (i * sz + k)) = cs'[k]?) ∧ cs'.length = sz ∧ DataW.trod enc Tryd.prog W base spare held n e cs' = some (D i, Pl i) := by
      intro i hil
      obtain ⟨cs', hcs, htr⟩ := hi i (by omega)
      obtain ⟨_, hlen, hat⟩ := World.cells?_some hcs
      exact ⟨cs', fun k hk => by have h1 := hat k hk; rw [add_add] at h1; exact h1, hlen, htr⟩
    have haddr : 0 < len → a = ⟨a.block, a.off, none⟩ ∧ a.block < W.heap.size := by
      intro hl0
      obtain ⟨cs', hk, hlen, _⟩ := hcell 0 hl0
      have h1 := hk 0 h0
      rw [Nat.zero_mul, Nat.zero_add, Addr.add, if_pos rfl, List.getElem?_eq_getElem (by omega)] at h1
      exact addr_here h1
    have each : ∀ i, i < len → ∃ x : α, P a.block (a.off + i * sz) x ∧ Q x := by
      intro i hil
      obtain ⟨cs', hk, hlen, htr⟩ := hcell i hil
      refine hel cs' _ n htr (fun w hw => hz w ?_) _ _ (fun k v hks hv => ?_)
      · simp only [DataW.weights, ht]
        exact List.mem_cons_of_mem _ (List.mem_append.2 (.inl (weights_mem (d := D i) (List.mem_map.2 ⟨i, List.mem_range.2 hil, rfl⟩) hw)))
      · have h1 := hk k hks
        rw [(haddr (by omega)).1, addr_off, hv] at h1
        rw [Nat.add_assoc]
        exact h1
    obtain ⟨T, hT⟩ := choose_lt each
    have hlen : ((List.range len).map T).length = len := by simp
    refine ⟨some a, (List.range len).map T, cap, by rw [hlen]; exact hc, by rw [hlen]; exact hl, by unfold maxLen at hm; omega, ?_, fun i hi => ?_, fun x hx => ?_⟩
    · rw [hlen]
      have h1 := hz ((((List.range len).map D).length + ((List.range (m - len)).map fun j => D (len + j)).length) * Tryd.prog.bytesOf e) (by simp [DataW.weights, ht])
      simp at h1
      exact Nat.le_trans (Nat.mul_le_mul_right _ (by omega)) h1
    · rw [hlen] at hi
      obtain ⟨ha, hlt⟩ := haddr (by omega)
      refine ⟨a.block, a.off, by rw [← ha], Nat.zero_le _, hlt, fun j x hx => ?_⟩
      have hj : j < len := by
        rcases Nat.lt_or_ge j len with h | h
        · exact h
        · rw [List.getElem?_eq_none (by rw [hlen]; exact h)] at hx; cases hx
      have : T j = x := by simpa [hj] using hx
      rw [← this]
      exact (hT j hj).1
    · obtain ⟨j, hj, rfl⟩ := List.mem_map.1 hx
      exact (hT j (List.mem_range.1 hj)).2
instance : Inhabited ByteArray := ⟨⟨#[]⟩⟩
instance : Inhabited Col := ⟨⟨⟨#[]⟩, 0⟩⟩
instance : Inhabited Tab := ⟨⟨⟨#[]⟩, [], []⟩⟩
theorem Tryd.cellsStr : Tryd.prog.cellsOf 9 = 1 := by kernel_rfl
theorem Tryd.cellsInt : Tryd.prog.cellsOf 3 = 1 := by kernel_rfl
end
open Go.RowKit
set_option maxRecDepth 100000
theorem dcol_ok {op : Int} {v : Val} {rel col n : Int} {s : ByteArray} {len : Nat} (h : headOk op v rel col n s len = true) (h2 : op = 2) : 0 ≤ col ∧ col ≤ 5 := by
  obtain ⟨_, _, _, h⟩ := head_parts h
  rcases h with ⟨h1, _⟩ | ⟨_, ⟨_, h1⟩ | ⟨h1, _⟩ | h1⟩
  · omega
  · exact ⟨h1.2.2.1, h1.2.2.2.1⟩
  · omega
  · omega
theorem n_ok {op : Int} {v : Val} {rel col n : Int} {s : ByteArray} {len : Nat} (h : headOk op v rel col n s len = true) (h3 : op = 3) : 1 ≤ n ∧ n ≤ 4 := by
  obtain ⟨_, _, _, h⟩ := head_parts h
  rcases h with ⟨h1, _⟩ | ⟨_, ⟨h1, _⟩ | ⟨_, h1⟩ | h1⟩
  · omega
  · omega
  · exact ⟨h1.2.2.1, h1.2.2.2⟩
  · omega
end Go.Proofs.YtklgoajgchfmeaaDoor
