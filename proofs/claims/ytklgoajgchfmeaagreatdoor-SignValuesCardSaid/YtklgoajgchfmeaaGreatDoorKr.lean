/- A part of the proof. -/
import Derived.Test.YtklgoajgchfmeaaGreatDoorKq
import Derived.Shelf.Strconv.AppendInt10
import Derived.ArgAppend
import Derived.Lib.SlBytesConst
import Derived.Test.YtklgoajgchfmeaaGreatDoorTxE
set_option linter.unusedVariables false
set_option linter.unusedSimpArgs false
namespace Go.Proofs.YtklgoajgchfmeaaGreatDoor
open Go.RowKit Go.Maps Go.ChangeShapes Go.Deep Go.Shelf Go.Sort
set_option maxRecDepth 100000
theorem OwnB.base_leB {w : World} {b b' : Nat} {v : Value} {l : List Int} (h : OwnB w b v l) (hb : b' ≤ b) : OwnB w b' v l := by
  obtain ⟨h1, h2⟩ := h
  refine ⟨h1, ?_⟩
  rcases h2 with h2 | ⟨g, cap, cur, hv, hg, r⟩
  · exact .inl h2
  · exact .inr ⟨g, cap, cur, hv, Nat.le_trans hb hg, r⟩
theorem run_full_string (w : World) (g : Nat) (y : UInt8) (m : Bs) (ty : TypeId) (hc : w.cell? ⟨g, 0, none⟩ = some (.int .u8 y.toNat)) (hm : 0 < m.length ∧ m.length ≤ 100000) :
    ∃ v' w', (Builtin.append_ #[61, 9] ty #[.slice (some ⟨g, 0, none⟩) 1 1, .string (bsB m)]).run Tryz.prog w = .ok v' w' ∧ OwnB w' w.heap.size v' (toJ (y :: m)) ∧ Below w.heap.size w w' := by
  obtain ⟨i0, hi, hz0, hz1, hz2⟩ := info_parts Tryz.infoU8
  have hsz : (bsB m).size = m.length := rfl
  have hr := Lib.run_append_grow_string (P := Tryz.prog) w 61 9 ty 5 i0 _ Tryz.underlying61 Tryz.underlying9 hi hz0 ⟨g, 0, none⟩ 1 1 [.int .u8 y.toNat] (by rw [hz1]; rfl) (fun j v hj => by
    match j, hj with
    | 0, hj => cases hj; simpa [Addr.add] using hc) (bsB m) (by omega) (by rw [hsz]; omega) (growslice_fits (by omega) (by rw [hsz, hz2]; omega))
  refine ⟨_, _, hr, ?_, ?_⟩
  · have hge := grownCap_ge w (1 + (bsB m).size) 1 5
    have hcm := grownCap_le_maxLen w (1 + (bsB m).size) 1 5 (by rw [hsz]; unfold maxLen; omega)
    have e : (toJ (y :: m)).map (Value.int .u8) = [Value.int .u8 y.toNat] ++ Lib.strCells (bsB m) := by rw [toJ_bytes]; rfl
    have hl : (toJ (y :: m)).length = 1 + (bsB m).size := by rw [hsz]; show ((y :: m).map _).length = _; rw [List.length_map, List.length_cons]; omega
    unfold OwnB
    rw [e, hl]
    refine ⟨by rw [List.length_append, Lib.strCells_length]; simp, .inr ⟨w.heap.size, _, _, rfl, Nat.le_refl _, heap_alloc_new w.drew _, hge, hcm, ?_, ?_⟩⟩
    · have hz1 : (Value.int IntKind.u8 0).cells.size = 1 := rfl
      simp only [Array.size_append, List.size_toArray, size_zeroCells, hz1, Lib.strCells_length, List.length_cons, List.length_nil]
      omega
    · simp only [Array.toList_append, List.append_assoc]
      have h5 : ([Value.int .u8 (y.toNat : Int)] ++ Lib.strCells (bsB m)).length = (1 + (bsB m).size) * 1 := by rw [List.length_append, Lib.strCells_length]; simp
      rw [← List.append_assoc, ← h5]
      exact List.take_left
  · exact ext_alloc (ext_drew (ext_refl _)) _
theorem run_full_bytes (w : World) (g h c : Nat) (y : UInt8) (m : Bs) (ty : TypeId) (hc : w.cell? ⟨g, 0, none⟩ = some (.int .u8 y.toNat)) (hm : 0 < m.length ∧ m.length ≤ 100000) (hh : ∀ j u, (Lib.byteCells m)[j]? = some u → w.cell? ((⟨h, 0, none⟩ : Addr).add j) = some u) :
    ∃ v' w', (Builtin.append_ #[61, 61] ty #[.slice (some ⟨g, 0, none⟩) 1 1, .slice (some ⟨h, 0, none⟩) m.length c]).run Tryz.prog w = .ok v' w' ∧ OwnB w' w.heap.size v' (toJ (y :: m)) ∧ Below w.heap.size w w' := by
  obtain ⟨i0, hi, hz0, hz1, hz2⟩ := info_parts Tryz.infoU8
  obtain ⟨v', w', hr, h1, h2⟩ := run_append_arg_grows (P := Tryz.prog) (w := w) 61 ty 5 i0 (.int .u8 0) 1 1 Tryz.underlying61 hi hz0 hz1 hz2 rfl (by decide) ⟨g, 0, none⟩ 1 1 [.int .u8 y.toNat] rfl (fun j v hj => by
    match j, hj with
    | 0, hj => cases hj; simpa [Addr.add] using hc) ⟨h, 0, none⟩ m.length c (Lib.byteCells m) (by rw [Lib.byteCells_length]; omega) hh (by omega) (by unfold maxLen; omega) (by omega)
  refine ⟨v', w', hr, ?_, (Below.refl _ _).grown h2 (Nat.le_refl _) (fun k hk => by cases hk)⟩
  have hl : (toJ (y :: m)).length = 1 + m.length := by show ((y :: m).map _).length = _; rw [List.length_map, List.length_cons]; omega
  unfold OwnB
  rw [toJ_bytes, hl]
  exact h1
theorem wp_run_appendS {w : World} {ops : Array Oper} {rest : List Oper} {o : Oper} {a : Act} {Q : Exit → Act → World → Prop} (hgd : o.guard = none) (s x : Operand) (t u : TypeId)
    (ho : o.op = .call { callee := .builtin .append, args := #[s, x], argTypes := #[t, u] }) (v y r : Value) (w1 : World) (hs : a.eval s = v) (hx : a.eval x = y)
    (hr : (Builtin.append_ #[t, u] o.type #[v, y]).run Tryz.prog w = .ok r w1) (h : wpList Tryz.prog ops Q rest (a.put o.dst r) w1) : wpList Tryz.prog ops Q (o :: rest) a w := by
  refine wpList_plain hgd fun K hK => ?_
  unfold Oper.wp execOp
  simp only [ho, resolve, invoke, builtin, Sem.run_bind, Sem.run_pure, Result.andThen_ok, List.map_toArray, List.map_cons, List.map_nil, hs, hx, hr]
  exact hK _ _ h
theorem digits_len {u : Nat} (hu : u < 18446744073709551616) : 0 < (Lib.decDigits u).length ∧ (Lib.decDigits u).length ≤ 20 := by
  rw [Lib.decDigits_length]
  refine ⟨Lib.nDigits_pos u, ?_⟩
  by_cases h : 1 ≤ u
  · have := Lib.numDigits_eq u h hu
    split at this <;> omega
  · obtain rfl : u = 0 := by omega
    rw [Lib.nDigits_small (by decide)]; omega
set_option maxHeartbeats 8000000 in
theorem appuint_small (g u : Nat) (y : UInt8) (hu : u < 100) (w : World) (hc : w.cell? ⟨g, 0, none⟩ = some (.int .u8 y.toNat)) :
    Calls Tryz.prog 62 #[.slice (some ⟨g, 0, none⟩) 1 1, .int .u64 u, .int .i64 10] w fun e w' => ∃ v', e = .returned v' ∧ OwnB w' w.heap.size v' (toJ (y :: Lib.decDigits u)) ∧ Below w.heap.size w w' := by
  have HS : ∀ W, Calls Tryz.prog 73 #[.int .i64 u] W fun e w' => e = .returned (.string ⟨(Lib.decDigits u).toArray⟩) ∧ w' = W := fun W => Any.internal_strconv_small (ρ := Tryz.laysM176_ren) { Tryz.laysM176 with } u hu W
  have HS := Lib.hid HS
  obtain ⟨v', w1, hr, h1, h2⟩ := run_full_string w g y (Lib.decDigits u) 61 hc ⟨(digits_len (by omega)).1, Nat.le_trans (digits_len (by omega)).2 (by decide)⟩
  have HR := Lib.hid hr
  have H1 := Lib.hid h1
  clear hr h1
  go_enter Tryz.func62, Tryz.ntmps62
  go_wp2_with (first
    | (go_at_call 73; refine (HS.out _).mono ?_; rintro e w' ⟨rfl, rfl⟩)
    | (at_builtin; refine wp_run_appendS rfl _ _ 61 9 rfl _ _ v' w1 rfl rfl HR.out ?_))
  refine bodyPost_ret (v := v') (by simp [results, Tryz.results62, go_sem]) rfl ⟨v', rfl, H1.out, h2⟩
set_option maxHeartbeats 16000000 in
theorem appuint_big (g u : Nat) (y : UInt8) (hu : 100 ≤ u) (hu64 : u < 18446744073709551616) (w : World) (hc : w.cell? ⟨g, 0, none⟩ = some (.int .u8 y.toNat)) (hG : GE w) :
    Calls Tryz.prog 62 #[.slice (some ⟨g, 0, none⟩) 1 1, .int .u64 u, .int .i64 10] w fun e w' => ∃ v', e = .returned v' ∧ OwnB w' w.heap.size v' (toJ (y :: Lib.decDigits u)) ∧ Below w.heap.size w w' := by
  have hu1 : 1 ≤ u := by omega
  have hnd20 : Lib.nDigits u ≤ 20 := by have := (digits_len hu64).2; rw [Lib.decDigits_length] at this; exact this
  have HND := Lib.hid (fun W (ht : Lib.TabIs Tryz.prog W "internal/strconv.uint64pow10" .u64 Lib.pow10Tab) => (show Calls Tryz.prog 74 #[.int .u64 u] W fun e w' => e = .returned (.int .i64 (Lib.nDigits u)) ∧ w' = W from Any.internal_strconv_numDigits (ρ := Tryz.laysM176_ren) { Tryz.laysM176 with } u hu1 hu64 W ht))
  have T24 : Tryz.prog.underlying 103 = some (.array 24 5) := Tryz.underlying103
  have hal : Tryz.prog.arrayLen 103 = 24 := by simp [Program.arrayLen, T24]
  have hsl : ∀ W, (Instr.sliceAt 103 (.pointer (some ⟨w.heap.size, 0, none⟩)) none (some (.int .i64 (Lib.nDigits u : Int))) none).run Tryz.prog W = .ok (.slice (some ⟨w.heap.size, 0, none⟩) (Lib.nDigits u) 24) W := fun W => by
    rw [run_sliceAt_array_h W 103 ⟨w.heap.size, 0, none⟩ (by simp [Program.arrayLen, Program.elem, T24]) .i64 (Lib.nDigits u : Int) (by omega) (by rw [hal]; omega)]
    go_simp
  have hH0 := Lib.holds_zero0 w 103 (Lib.nDigits u) (by omega)
  have hfmt := Any.internal_strconv_formatBase10 (ρ := Tryz.laysM176_ren) (P := Tryz.prog) { Tryz.laysM176 with } w.heap.size 0 24 u (Array.replicate (Lib.nDigits u) 0) (w.alloc (.cells Lib.zeros24 103)) hH0 (by rw [Array.size_replicate]; exact Lib.lt_pow_nDigits u) hu64 (by rw [Array.size_replicate]; omega)
  rw [Array.size_replicate] at hfmt
  have HF := Lib.hid (show Calls Tryz.prog 75 #[.slice (some ⟨w.heap.size, 0, none⟩) (Lib.nDigits u) 24, .int .u64 u] (w.alloc (.cells Lib.zeros24 103)) _ from hfmt)
  have HH0 := Lib.hid hH0
  have HTAB := Lib.hid (hG.on (ext_alloc (ext_refl w) (.cells Lib.zeros24 103))).pow
  have HC := Lib.hid hc
  have iu : (100 : Int) ≤ (u : Int) := by omega
  clear hH0 hal hfmt hG hc T24
  go_enter Tryz.func62, Tryz.ntmps62
  go_wp2_with (first
    | (go_at_call 74; refine (HND.out _ HTAB.out).mono ?_; rintro e w' ⟨rfl, rfl⟩))
  refine HF.out.mono ?_
  rintro e w' ⟨rfl, k, v', dk, rfl, hF⟩
  have hcells : ∀ j u', (Lib.byteCells (Lib.decDigits u))[j]? = some u' → ((putRow (fun (b : UInt8) => Value.int .u8 (b.toNat : Int)) (w.alloc (.cells Lib.zeros24 103)) w.heap.size 0 dk).drewN k).cell? ((⟨w.heap.size, 0, none⟩ : Addr).add j) = some u' := by
    intro j u' hj
    have hjl : j < (Lib.decDigits u).length := by
      have h5 := (List.getElem?_eq_some_iff.1 hj).1
      rwa [Lib.byteCells_length] at h5
    have e5 : (Lib.byteCells (Lib.decDigits u))[j]? = some (Value.int .u8 ((Lib.decDigits u)[j].toNat : Int)) := by simp [Lib.byteCells, hjl]
    rw [e5] at hj
    cases hj
    rw [Lib.row_is_numeral hF j hjl, Lib.add_plain, World.cell?_drewN]
    exact cell?_putRow (fun (b : UInt8) => Value.int .u8 (b.toNat : Int)) _ w.heap.size 0 _ dk HH0.out (by rw [hF.size, Array.size_replicate]) j (by rw [hF.size]; rw [Lib.decDigits_length] at hjl; exact hjl)
  obtain ⟨os, eo⟩ := Lib.fin_at w (.cells Lib.zeros24 103) dk k 0
  have hnx2 : Below w.heap.size w ((putRow (fun (b : UInt8) => Value.int .u8 (b.toNat : Int)) (w.alloc (.cells Lib.zeros24 103)) w.heap.size 0 dk).drewN k) := by rw [eo]; exact Lib.below_grow w.heap.size w (Nat.le_refl _) k os
  generalize (putRow (fun (b : UInt8) => Value.int .u8 (b.toNat : Int)) (w.alloc (.cells Lib.zeros24 103)) w.heap.size 0 dk).drewN k = W2 at hcells hnx2 ⊢
  have hgl : g < w.heap.size := World.block_lt_of_cell? w ⟨g, 0, none⟩ (by rw [HC.out])
  obtain ⟨vf, w1, hr, h1, h2⟩ := run_full_bytes W2 g w.heap.size 24 y (Lib.decDigits u) 61 ((hnx2.cell (p := ⟨g, 0, none⟩) hgl).trans HC.out) ⟨(digits_len hu64).1, Nat.le_trans (digits_len hu64).2 (by decide)⟩ hcells
  rw [Lib.decDigits_length] at hr
  have HR := Lib.hid hr
  have H1 := Lib.hid (h1.base_leB hnx2.size)
  have HB := Lib.hid (hnx2.trans (h2.mono hnx2.size))
  clear eo hr h1 h2 hcells hnx2 hgl
  go_wp2_with (at_builtin; refine wp_run_appendS rfl _ _ 61 61 rfl _ _ vf w1 rfl rfl HR.out ?_)
  refine bodyPost_ret (v := vf) (by simp [results, Tryz.results62, go_sem]) rfl ⟨vf, rfl, H1.out, HB.out⟩
theorem appuint_full (g u : Nat) (y : UInt8) (hu64 : u < 18446744073709551616) (w : World) (hc : w.cell? ⟨g, 0, none⟩ = some (.int .u8 y.toNat)) (hG : GE w) :
    Calls Tryz.prog 62 #[.slice (some ⟨g, 0, none⟩) 1 1, .int .u64 u, .int .i64 10] w fun e w' => ∃ v', e = .returned v' ∧ OwnB w' w.heap.size v' (toJ (y :: Lib.decDigits u)) ∧ Below w.heap.size w w' := by
  by_cases h : u < 100
  · exact appuint_small g u y h w hc
  · exact appuint_big g u y (by omega) hu64 w hc hG
set_option maxHeartbeats 8000000 in
theorem appint_full (g : Nat) (y : UInt8) (z : Int) (hz : inR z = true) (w : World) (hc : w.cell? ⟨g, 0, none⟩ = some (.int .u8 y.toNat)) (hG : GE w) :
    Calls Tryz.prog 22 #[.slice (some ⟨g, 0, none⟩) 1 1, .int .i64 z, .int .i64 10] w fun e w' => ∃ v', e = .returned v' ∧ OwnB w' w.heap.size v' (toJ (y :: Lib.itoa z)) ∧ Below w.heap.size w w' := by
  obtain ⟨z1, z2⟩ := inR_iff.1 hz
  have HG := Lib.hid hG
  have HI : Calls Tryz.prog 45 #[.slice (some ⟨g, 0, none⟩) 1 1, .int .i64 z, .int .i64 10] w fun e w' => ∃ v', e = .returned v' ∧ OwnB w' w.heap.size v' (toJ (y :: Lib.itoa z)) ∧ Below w.heap.size w w' := by
    by_cases hneg : z < 0
    · obtain ⟨u, rfl⟩ : ∃ u : Nat, z = -(u : Int) := ⟨z.natAbs, by omega⟩
      have hu1 : 1 ≤ u := by omega
      have hu64 : u < 18446744073709551616 := by omega
      have hwr : IntKind.u64.wrap (-IntKind.u64.wrap (-(u : Int))) = (u : Int) := by rw [IntKind.wrap_u64, IntKind.wrap_u64]; omega
      rw [Lib.itoa_neg u hu1]
      have B1 : Below w.heap.size w (w.alloc (.cells #[.int .u8 45] 5)) := ext_alloc (ext_refl _) _
      have hgl : g < w.heap.size := World.block_lt_of_cell? w ⟨g, 0, none⟩ (by rw [hc])
      obtain ⟨v1, w1, hr, h1, h2⟩ := run_full_bytes (w.alloc (.cells #[.int .u8 45] 5)) g w.heap.size 1 y [45] 61 ((B1.cell (p := ⟨g, 0, none⟩) hgl).trans hc) ⟨by decide, by decide⟩ (fun j u' hj => by
        match j, hj with
        | 0, hj => cases hj; simp [Addr.add])
      have HR := Lib.hid hr
      have hb1 : Below w.heap.size w w1 := B1.trans (h2.mono B1.size)
      have H1 := Lib.hid (h1.base_leB B1.size)
      have hG1 := HG.out.on hb1
      have HU : Calls Tryz.prog 62 #[v1, .int .u64 (u : Int), .int .i64 10] w1 fun e w' => ∃ v', e = .returned v' ∧ OwnB w' w.heap.size v' (toJ (y :: 45 :: Lib.decDigits u)) ∧ Below w.heap.size w1 w' := by
        have ho : w1.ownsRow w.heap.size 5 1 v1 2 (Lib.byteCells [y, 45]) := by
          have h := H1.out
          unfold OwnB at h
          rw [toJ_bytes] at h
          exact h
        have h : Calls Tryz.prog 62 #[v1, .int .u64 (u : Int), .int .i64 10] w1 _ := Any.internal_strconv_AppendUint_10 (ρ := Tryz.laysM176_ren) { Tryz.laysM176 with } w.heap.size 2 u hu64 v1 (Lib.byteCells [y, 45]) w1 ho hb1.size (by omega) hG1.pow
        refine h.mono ?_
        rintro e w' ⟨v', rfl, k1, k2, -⟩
        refine ⟨v', rfl, ?_, k2⟩
        unfold OwnB
        rw [toJ_bytes, show (toJ (y :: 45 :: Lib.decDigits u)).length = 2 + (Lib.decDigits u).length by show ((y :: 45 :: Lib.decDigits u).map _).length = _; rw [List.length_map, List.length_cons, List.length_cons]; omega]
        exact k1
      have HU := Lib.hid HU
      have HB1 := Lib.hid hb1
      clear hr h1 h2 hb1 hG1 hgl B1 hc z1 z2 hz
      go_enter Tryz.func45, Tryz.ntmps45
      go_wp2_with (at_builtin; refine wp_run_appendS rfl _ _ 61 61 rfl _ _ v1 w1 rfl rfl HR.out ?_)
      refine HU.out.mono ?_
      rintro e w2 ⟨v2, rfl, k1, k2⟩
      have K1 := Lib.hid k1
      have K2 := Lib.hid (HB1.out.trans k2)
      clear k1 k2
      go_wp2_with fail
      refine bodyPost_ret (v := v2) (by simp [results, Tryz.results45, go_sem]) rfl ⟨v2, rfl, K1.out, K2.out⟩
    · obtain ⟨u, rfl⟩ : ∃ u : Nat, z = u := ⟨z.toNat, by omega⟩
      have hu64 : u < 18446744073709551616 := by omega
      rw [Lib.itoa_nonneg]
      have HU := Lib.hid (appuint_full g u y hu64 w hc hG)
      clear hc hG z1 z2 hz
      go_enter Tryz.func45, Tryz.ntmps45
      go_wp2_with fail
      refine HU.out.mono ?_
      rintro e w2 ⟨v2, rfl, k1, k2⟩
      have K1 := Lib.hid k1
      clear k1
      go_wp2_with fail
      refine bodyPost_ret (v := v2) (by simp [results, Tryz.results45, go_sem]) rfl ⟨v2, rfl, K1.out, k2⟩
  have HI := Lib.hid HI
  clear hc hG z1 z2 hz
  go_enter Tryz.func22, Tryz.ntmps22
  go_wp2_with fail
  refine HI.out.mono ?_
  rintro e w2 ⟨v2, rfl, k1, k2⟩
  have K1 := Lib.hid k1
  clear k1
  go_wp2_with fail
  refine bodyPost_ret (v := v2) (by simp [results, Tryz.results22, go_sem]) rfl ⟨v2, rfl, K1.out, k2⟩
open Go.RowKit Go.Maps Go.ChangeShapes Go.Deep Go.Shelf
set_option maxRecDepth 100000
def OutS (w : World) (B : Nat) (v : Value) (l : Bs) : Prop := OwnB w B v (toJ l) ∨ (l = [83] ∧ ∃ g, v = .slice (some ⟨g, 0, none⟩) 1 1 ∧ w.cell? ⟨g, 0, none⟩ = some (.int .u8 83))
theorem appint_out (B : Nat) (z : Int) (l : Bs) (v : Value) (w : World) (hz : inR z = true) (hown : OutS w B v l) (hB : B ≤ w.heap.size) (hG : GE w) (hg : 3 ≤ B) (hn : l.length + 21 ≤ 140737488355328) :
    Calls Tryz.prog 22 #[v, .int .i64 z, .int .i64 10] w fun e w' => ∃ v', e = .returned v' ∧ OwnB w' B v' (toJ (l ++ Lib.itoa z)) ∧ Below B w w' := by
  rcases hown with h | ⟨rfl, g, rfl, h3⟩
  · exact appint_any B z l v w hz h hB hG hg hn
  · refine (appint_full g 83 z hz w h3 hG).mono ?_
    rintro e w' ⟨v', rfl, h1, h2⟩
    exact ⟨v', rfl, h1.base_leB hB, h2.mono hB⟩
theorem tabsT_ne (S : Nat) : ∀ (l : List Int) (k i : Nat), i < l.length → S.testBit (k + i) = true → tabsT S k l ≠ []
  | [], _, _, h, _ => by simp at h
  | t :: r, k, 0, _, h => by rw [tabsT, if_pos (by simpa using h)]; simp
  | t :: r, k, i + 1, hi, h => by
    have h1 := tabsT_ne S r (k + 1) i (by simpa using hi) (by rw [show k + 1 + i = k + (i + 1) by omega]; exact h)
    rw [tabsT]
    intro e
    exact h1 (List.append_eq_nil_iff.1 e).2
theorem some_bit : ∀ S : Fin 16, ∀ k : Fin 5, 1 ≤ S.val → S.val < 2 ^ k.val → ∃ i : Fin 4, i.val < k.val ∧ S.val.testBit i.val = true := by decide
theorem bytes_step {w U V : World} {B b : Nat} {v vs : Value} {l : List Int} {K : List ByteArray} (ho : OwnB U B v l) (hs : OwnF U b 9 1 (fun x : ByteArray => [Value.string x]) vs K) (hb : Below w.heap.size w U) (hB : w.heap.size ≤ B) (hg : U.grownBy V v.ownBlock) :
    OwnF V b 9 1 (fun x : ByteArray => [Value.string x]) vs K ∧ Below w.heap.size w V := by
  have o : Out (fun k => v.ownBlock = some k) U V := Out.grown hg (fun k hk => hk)
  refine ⟨hs.kept o fun k hk e => ?_, hb.trans (o.below hb.size fun k hk => Nat.le_trans hB (ho.blk hk).2)⟩
  obtain ⟨cur, hc⟩ := (ho.blk hk).1
  rcases hs.2 with ⟨rfl, -⟩ | ⟨g, cap, cur', rfl, -, hg', -⟩
  · cases e
  · have e1 : g = k := by simpa [Value.ownBlock] using e
    subst e1
    rw [hc] at hg'
    have := Option.some.inj hg'
    injection this with _ h2 _
    exact absurd h2 (by decide)
set_option maxHeartbeats 16000000 in
theorem dof_any (r : RawK) (tabs : List Int) (L : List Ex) (set : Int) (w : World) (h : BlkIn w r tabs L) (hG : GE w) (hs : inR set = true) (hci : inR r.core = true) (hLn : L.length ≤ 1048576) (hti : ∀ t ∈ tabs, inR t = true) :
    Calls Tryz.prog 9 #[.agg r.cells.toArray, .int .i64 set] w fun e w' => e = .returned (.tuple #[.string (bsB (ofE tabs r.core L set).1), .int .i64 (ofE tabs r.core L set).2]) ∧ Below w.heap.size w w' := by
  have H := Lib.hid h
  have HG := Lib.hid hG
  have HTI := Lib.hid hti
  have HP := Lib.hid (fun W hb => isPart_any r tabs L set W (h.on hb) (hG.on hb) hs hci)
  have K0 := KB.new w r.cells 43
  have B0 : Below w.heap.size w (w.alloc (.cells r.cells.toArray 43)) := ext_alloc (ext_refl _) _
  have HLN := Lib.hid hLn
  obtain ⟨⟨tq, tn, tc⟩, core, ⟨kq, kn, kc⟩, ⟨oq, on, oc⟩, ⟨cq, cn, cc⟩, ⟨aq, an, ac⟩, ⟨uq, un, uc⟩, gr, ⟨eq, en, ec⟩, ⟨iq, in_, ic⟩, di⟩ := r
  obtain ⟨W, hW⟩ : ∃ W, W = w.alloc (.cells (RawK.cells ⟨⟨tq, tn, tc⟩, core, ⟨kq, kn, kc⟩, ⟨oq, on, oc⟩, ⟨cq, cn, cc⟩, ⟨aq, an, ac⟩, ⟨uq, un, uc⟩, gr, ⟨eq, en, ec⟩, ⟨iq, in_, ic⟩, di⟩).toArray 43) := ⟨_, rfl⟩
  rw [← hW] at K0 B0
  have HW := Lib.hid hW
  clear hW hG hti h
  go_enter Tryz.func9, Tryz.ntmps9
  go_upto_region 1 with fail
  change Code.wp _ _ _ _ (w.alloc (.cells (RawK.cells ⟨⟨tq, tn, tc⟩, core, ⟨kq, kn, kc⟩, ⟨oq, on, oc⟩, ⟨cq, cn, cc⟩, ⟨aq, an, ac⟩, ⟨uq, un, uc⟩, gr, ⟨eq, en, ec⟩, ⟨iq, in_, ic⟩, di⟩).toArray 43))
  rw [← HW.out]
  clear HW
  obtain ⟨g, hg⟩ : ∃ g, g = w.heap.size := ⟨_, rfl⟩
  rw [← hg] at K0 ⊢
  have HB := Lib.hid B0
  have HK := Lib.hid K0
  obtain ⟨lt, kc_⟩ := K0
  have c0 := kc_ 0 _ rfl
  have c1 := kc_ 1 _ rfl
  have c2 := kc_ 2 _ rfl
  have c3 := kc_ 3 _ rfl
  have c4 := kc_ 4 _ rfl
  have c5 := kc_ 5 _ rfl
  have c6 := kc_ 6 _ rfl
  have c7 := kc_ 7 _ rfl
  have c8 := kc_ 8 _ rfl
  have c9 := kc_ 9 _ rfl
  have c10 := kc_ 10 _ rfl
  have HPW := Lib.hid (HP.out W HB.out)
  clear kc_ hg B0 HP
  simp only at c0 c1 c2 c3 c4 c5 c6 c7 c8 c9 c10
  go_wp2_with fail
  refine HPW.out.mono ?_
  rintro e X ⟨rfl, hbX⟩
  have HBX := Lib.hid (HB.out.trans (hbX.mono HB.out.size))
  have HKX := Lib.hid (HK.out.on hbX)
  clear hbX HPW HB HK lt c0 c1 c2 c3 c4 c5 c6 c7 c8 c9 c10
  simp only
  cases hp : partE tabs core L set with
  | false =>
    have HO := Lib.hid (show ofE tabs core L set = ([], 1) by unfold ofE; rw [hp]; rfl)
    clear hp
    go_wp2_with fail
    refine bodyPost_ret (v := .tuple #[.string ⟨#[]⟩, .int .i64 1]) (by simp [results, Tryz.results9, go_sem]) rfl ⟨?_, HBX.out⟩
    rw [HO.out]
  | true =>
    have HO := Lib.hid (show ofE tabs core L set = (83 :: (tabsT set.toNat 0 (tabs.take core.toNat) ++ textsT (sortE ((rankedE set L).map Ex.norm))), 0) by unfold ofE; rw [hp]; rfl)
    unfold partE at hp
    simp only [Bool.and_eq_true, decide_eq_true_eq] at hp
    obtain ⟨⟨⟨⟨⟨p1, p2⟩, p3⟩, p4⟩, p5⟩, p6⟩ := hp
    obtain ⟨k, hk⟩ : ∃ k : Nat, core = k := ⟨core.toNat, by omega⟩
    subst hk
    obtain ⟨S, hS⟩ : ∃ S : Nat, set = S := ⟨set.toNat, by omega⟩
    subst hS
    have hS16 : S < 16 := by
      have h1 : (2 : Int) ^ (k : Int).toNat = ((2 ^ k : Nat) : Int) := by simp
      have h2 : 2 ^ k ≤ 2 ^ 4 := Nat.pow_le_pow_right (by decide) (by omega)
      have h3 : (2 : Nat) ^ 4 = 16 := rfl
      have p5' := p5
      rw [h1] at p5'
      omega
    have HCN := Lib.hid (show cn = L.length from H.out.cn)
    have HRN := Lib.hid (renum_any L cq cc S X (ExL.ext HBX.out _ _ _ H.out.co) (by rw [← HCN.out]; exact H.out.cc) H.out.few (HG.out.on HBX.out) hS16)
    rw [← HCN.out] at HRN
    have lt := HKX.out.lt
    have c4 := HKX.out.c 4 _ rfl
    simp only at c4
    have hk4 : k ≤ 4 := by omega
    have HP3 := Lib.hid (show k ≤ tabs.length by omega)
    have HAR := Lib.hid p6
    have HSB := Lib.hid (show 1 ≤ S ∧ S < 2 ^ k by
      have h1 : (2 : Int) ^ (k : Int).toNat = ((2 ^ k : Nat) : Int) := by simp
      rw [h1] at p5
      omega)
    clear p1 p2 p3 p4 p5 p6
    go_wp2_with fail
    refine HRN.out.mono ?_
    rintro e Y ⟨⟨v, rfl, hOv⟩, hbY⟩
    obtain ⟨qr, cr, rfl, -, -, hLr⟩ := hOv.toL
    have hrl : (rankedE (S : Int) L).length ≤ L.length := by unfold rankedE; rw [List.length_map]; exact List.length_filter_le _ _
    have HRL := Lib.hid hrl
    have HBY := Lib.hid (HBX.out.trans (hbY.mono HBX.out.size))
    have HKY := Lib.hid (HKX.out.on hbY)
    have HNM := Lib.hid (normals_any (rankedE (S : Int) L) qr cr Y hLr (by have := HLN.out; omega) (HG.out.on HBY.out))
    clear hOv hLr hbY hrl HRN lt c4 HKX
    obtain ⟨nr, hnr⟩ : ∃ n, n = (rankedE (S : Int) L).length := ⟨_, rfl⟩
    rw [← hnr] at HNM HRL ⊢
    clear hnr
    go_wp2_with fail
    refine HNM.out.mono ?_
    rintro e Z ⟨⟨-, m, rfl, hm, hM⟩ | ⟨ha, rfl⟩, hbZ⟩
    rotate_left
    · exfalso; rw [ranked_right] at ha; cases ha
    have HBZ := Lib.hid (HBY.out.trans (hbZ.mono HBY.out.size))
    have HKZ := Lib.hid (HKY.out.on hbZ)
    have HMZ := Lib.hid hM
    clear hm hM hbZ HNM HKY
    have hcv := fun (w : World) (C : Array Value) (n c : Nat) => Lib.run_convert_bytes_const (P := Tryz.prog) w 61 5 C n c Tryz.underlying61 Tryz.underlying5
    have HN1 := Lib.hid (show 1 ≤ S ∧ S < 2 ^ k from HSB.out)
    go_upto_region 7 with fail
    have hcN : (Z.alloc (.cells #[.int .u8 83] 5 (1, 2))).cell? ⟨Z.heap.size, 0, none⟩ = some (.int .u8 83) := by rw [Lib.cell_of_heap (heap_alloc_new Z _)]; rfl
    have bN : Below Z.heap.size Z (Z.alloc (.cells #[.int .u8 83] 5 (1, 2))) := ext_alloc (ext_refl _) _
    obtain ⟨N, hN⟩ : ∃ N, N = Z.alloc (.cells #[.int .u8 83] 5 (1, 2)) := ⟨_, rfl⟩
    rw [← hN] at hcN bN ⊢
    clear hN hcv
    have HOS := Lib.hid (show OutS N Z.heap.size (.slice (some ⟨Z.heap.size, 0, none⟩) 1 1) [83] from .inr ⟨rfl, Z.heap.size, rfl, hcN⟩)
    have HBN := Lib.hid bN
    have HKN := HKZ.out.on bN
    have lt := HKN.lt
    have c0 := HKN.c 0 _ rfl
    have c1 := HKN.c 1 _ rfl
    simp only at c0 c1
    have HIT := Lib.hid (show IntsA w 0 w.heap.size tq tabs from H.out.t)
    have HTN := Lib.hid (show tn = tabs.length from H.out.tn)
    have htc : tn ≤ tc := H.out.tc.1
    have htc2 : tc ≤ 9223372036854775807 := H.out.tc.2
    have hktn : k ≤ tn := by rw [HTN.out]; exact HP3.out
    have HGS := Lib.hid (show 3 ≤ Z.heap.size from Nat.le_trans HG.out.size HBZ.out.size)
    clear hcN bN HKN
    obtain ⟨v0, hv0⟩ : ∃ v, v = Value.slice (some ⟨Z.heap.size, 0, none⟩) 1 1 := ⟨_, rfl⟩
    rw [← hv0] at HOS ⊢
    clear hv0
    go_wp2_with fail
    go_loopw [8, 36] (fun v8 v36 wr => ∃ i : Nat, v36 = .int .i64 i ∧ i ≤ k ∧ Hid (OutS wr Z.heap.size v8 (83 :: tabsT S 0 (tabs.take i)) ∧ Below Z.heap.size Z wr)) (fun _ v36 _ => ((k : Int) - intOf v36).toNat)
    case atStart => exact ⟨0, rfl, Nat.zero_le _, HOS.out, HBN.out⟩
    case round =>
      obtain ⟨i, rfl, hi, HH⟩ := hrel
      obtain ⟨V, hV⟩ : ∃ V, V = wr := ⟨_, rfl⟩
      rw [← hV] at HH
      rw [← hV]
      clear hV
      have HOV := Lib.hid HH.out.1
      have HBV := Lib.hid HH.out.2
      clear HH HOS HBN lt c0 c1
      by_cases hlt : i < k
      · have hit : i < tabs.length := Nat.lt_of_lt_of_le hlt HP3.out
        have ht : tabs[i]? = some (tabs[i]'hit) := List.getElem?_eq_getElem hit
        obtain ⟨tz, htz⟩ : ∃ z, z = tabs[i]'hit := ⟨_, rfl⟩
        rw [← htz] at ht
        have HTZ := Lib.hid (HTI.out tz (List.mem_of_getElem? ht))
        have HTS := Lib.hid (show tabsT S 0 (tabs.take (i + 1)) = tabsT S 0 (tabs.take i) ++ (if S.testBit i then Lib.itoa tz ++ [32] else []) by
          rw [take_snoc ht, tabsT_snoc, Nat.zero_add, List.length_take, Nat.min_eq_left (Nat.le_of_lt hit)])
        have HTL := Lib.hid (show (tabsT S 0 (tabs.take i)).length ≤ 22 * i by
          refine Nat.le_trans (tabsT_len S (tabs.take i) 0 fun t h => HTI.out t (List.mem_of_mem_take h)) ?_
          rw [List.length_take]
          have := Nat.min_le_left i tabs.length
          omega)
        obtain ⟨gt, ot, hqt, -, hgt, hct⟩ := HIT.out i hit
        have hcV : V.cell? ⟨gt, ot + i * 1, none⟩ = some (.int .i64 tz) := ((HBZ.out.trans (HBV.out.mono HBZ.out.size)).cell (p := ⟨gt, ot + i * 1, none⟩) hgt).trans (hct i tz ht)
        simp only [Nat.mul_one] at hcV
        subst hqt
        clear hct ht htz hit hgt
        have hsb := shr_bitS (s := S) (j := i) (by omega)
        obtain ⟨LT, hLT⟩ : ∃ l, l = tabsT S 0 (tabs.take i) := ⟨_, rfl⟩
        rw [← hLT] at HOV HTS HTL
        clear hLT
        cases hb : S.testBit i with
        | true =>
          rw [hb] at hsb
          rw [hb, if_pos rfl] at HTS
          have HAI := Lib.hid (appint_out Z.heap.size tz (83 :: LT) u8 V HTZ.out HOV.out HBV.out.size (HG.out.on (HBZ.out.trans (HBV.out.mono HBZ.out.size))) HGS.out (by rw [List.length_cons]; have := HTL.out; omega))
          clear hb
          go_wp2_with fail
          refine HAI.out.mono ?_
          rintro e Y ⟨v', rfl, h1, h2⟩
          have BA : Below Y.heap.size Y (Y.alloc (.cells #[.int .u8 32] 5)) := ext_alloc (ext_refl _) _
          have HY1 := Lib.hid (h1.later BA)
          have HBY := Lib.hid (HBV.out.trans h2)
          have HBYA := Lib.hid (HBY.out.trans (BA.mono HBY.out.size))
          obtain ⟨pv, nv, cv, rfl⟩ := h1.slice
          have hle : (toJ (83 :: LT ++ Lib.itoa tz)).length < 1099511627776 := by
            show ((83 :: LT ++ Lib.itoa tz).map _).length < _
            rw [List.length_map, List.length_append, List.length_cons]
            have h3 := HTL.out
            obtain ⟨a, b⟩ := inR_iff.1 HTZ.out
            have h4 := Lib.itoa_length_le tz a b
            omega
          clear h1 h2 BA HAI
          obtain ⟨LL, hLL⟩ : ∃ l, l = toJ (83 :: LT ++ Lib.itoa tz) := ⟨_, rfl⟩
          rw [← hLL] at HY1 hle
          have HLL := Lib.hid hLL
          clear hLL
          go_wp2_with (at_builtin; refine wp_append_byte2 rfl _ _ rfl Z.heap.size _ LL rfl HY1.out 32 Y.heap.size 1 rfl ?k1 hle ?k3 ?_)
          case k1 => simp [go_sem]
          case k3 => exact HBYA.out.size
          intro v2 w2 h1 _ h2
          have HN := Lib.hid (show OutS w2 Z.heap.size v2 (83 :: tabsT S 0 (tabs.take (i + 1))) from .inl (by
            rw [HTS.out]
            have e : toJ (83 :: (LT ++ (Lib.itoa tz ++ [32]))) = toJ (83 :: LT ++ Lib.itoa tz) ++ [32] := by
              rw [show (83 :: (LT ++ (Lib.itoa tz ++ [32])) : Bs) = (83 :: LT ++ Lib.itoa tz) ++ [32] by simp, toJ_app]
              rfl
            rw [e, ← HLL.out]; exact h1))
          have HB2 := Lib.hid (HBYA.out.trans h2)
          clear h1 h2 hle
          go_wp2_with fail
          go_roundw
          case rel => exact ⟨i + 1, by go_num, hlt, HN.out, HB2.out⟩
          case measure => simp [intOf] <;> omega
        | false =>
          rw [hb] at hsb
          rw [hb] at HTS
          simp only [Bool.false_eq_true, if_false, List.append_nil] at HTS
          have HNX := Lib.hid (show OutS V Z.heap.size u8 (83 :: tabsT S 0 (tabs.take (i + 1))) by rw [HTS.out]; exact HOV.out)
          clear hb
          go_wp2_with fail
          refine ⟨⟨i + 1, by go_num, hlt, HNX.out, HBV.out⟩, ?_⟩
          simp [intOf] <;> omega
      · obtain rfl : i = k := by omega
        have HTL := Lib.hid (show (tabsT S 0 (tabs.take i)).length ≤ 100 by
          refine Nat.le_trans (tabsT_len S (tabs.take i) 0 fun t h => HTI.out t (List.mem_of_mem_take h)) ?_
          rw [List.length_take]
          have := Nat.min_le_left i tabs.length
          omega)
        have hOB : OwnB V Z.heap.size u8 (toJ (83 :: tabsT S 0 (tabs.take i))) := by
          rcases HOV.out with h | ⟨h, -⟩
          · exact h
          · exfalso
            obtain ⟨j, hj1, hj2⟩ := some_bit ⟨S, hS16⟩ ⟨i, by omega⟩ HSB.out.1 HSB.out.2
            have hne := tabsT_ne S (tabs.take i) 0 j.val (by rw [List.length_take, Nat.min_eq_left HP3.out]; exact hj1) (by rw [Nat.zero_add]; exact hj2)
            simp only [List.cons.injEq, true_and] at h
            exact hne h
        obtain ⟨LT, hLT⟩ : ∃ l, l = tabsT S 0 (tabs.take i) := ⟨_, rfl⟩
        have HLT := Lib.hid hLT
        rw [← hLT] at HTL hOB
        have HOB := Lib.hid hOB
        have HBwV := Lib.hid (HBZ.out.trans (HBV.out.mono HBZ.out.size))
        have HMV := Lib.hid (HMZ.out.below (HBV.out))
        obtain ⟨pv, nv, cv, rfl⟩ := hOB.slice
        clear hLT hOB HOV
        go_wp2_with fail
        refine (mapKeysX_any (some m) V).mono ?_
        rintro e w3 ⟨rfl, rfl⟩
        go_wp2_with fail
        have hnr : nr ≤ 1048576 := Nat.le_trans HRL.out hLn
        refine (skeys_any V m nr Y.heap.size _ HMV.out (by omega)).mono ?_
        rintro e w4 ⟨⟨q, c, rfl, -, hOS⟩, hb4⟩
        have B3 : Below V.heap.size V (V.alloc (.cells #[.map (some m)] 57)) := ext_alloc (ext_refl _) _
        have b4 : Below V.heap.size V w4 := B3.trans (hb4.mono B3.size)
        have HPS := Lib.hid (fun x (hx : x ∈ sortE ((rankedE (S : Int) L).map Ex.norm)) => (show x.print.length ≤ 20300 from by
          obtain ⟨ok, D, -, -, hD⟩ := HMV.out
          have hxm := ((sortE_is (fun y hy => (right_iff8.1 (ok y hy)).1)).2 x).1 hx
          obtain ⟨r, -, hr⟩ := hD x hxm
          exact print_size (ExMP.toM _ _ hr) (ok x hxm)))
        have HKL := Lib.hid (show (sortE ((rankedE (S : Int) L).map Ex.norm)).length ≤ 1048576 from Nat.le_trans (sortE_len _) (by rw [List.length_map]; exact Nat.le_trans (by unfold rankedE; rw [List.length_map]; exact List.length_filter_le _ _) hLn))
        have HO2 := Lib.hid (show ofE tabs i L S = (83 :: (LT ++ textsT (sortE ((rankedE (S : Int) L).map Ex.norm))), 0) by rw [HO.out, HLT.out]; rfl)
        obtain ⟨K, hK⟩ : ∃ K, K = sortE ((rankedE (S : Int) L).map Ex.norm) := ⟨_, rfl⟩
        rw [← hK] at hOS HPS HKL HO2 ⊢
        have HOW := Lib.hid hOS
        have HOB4 := Lib.hid (HOB.out.later b4)
        have HB4 := Lib.hid (HBwV.out.trans (b4.mono HBwV.out.size))
        have HZ4 := Lib.hid (show Z.heap.size ≤ w4.heap.size from Nat.le_trans HBV.out.size b4.size)
        obtain ⟨kl, hkl⟩ : ∃ n, n = K.length := ⟨_, rfl⟩
        rw [← hkl] at HOW HKL ⊢
        have HKN := Lib.hid hkl
        have hkl6 : kl ≤ 1048576 := HKL.out
        clear hK hOS hb4 B3 b4 HOB HBwV HMV HBV hkl HLT HO
        go_wp2_with fail
        go_loopw [8, 57] (fun v8 v57 wr => ∃ j : Nat, v57 = .int .i64 j ∧ j ≤ kl ∧ Hid (OwnB wr Z.heap.size v8 (toJ (83 :: (LT ++ textsT (K.take j)))) ∧ Below w.heap.size w wr ∧ OwnF wr V.heap.size 9 1 (fun x : ByteArray => [Value.string x]) (.slice q kl c) (K.map fun x => bsB x.print) ∧ Z.heap.size ≤ wr.heap.size)) (fun _ v57 _ => ((kl : Int) - intOf v57).toNat)
        case atStart => exact ⟨0, rfl, Nat.zero_le _, by rw [List.take_zero, textsT, List.append_nil]; exact HOB4.out, HB4.out, HOW.out, HZ4.out⟩
        case round =>
          obtain ⟨j, rfl, hj, HH⟩ := hrel
          obtain ⟨U, hU⟩ : ∃ V, V = wr := ⟨_, rfl⟩
          rw [← hU] at HH
          rw [← hU]
          clear hU
          have HOU := Lib.hid HH.out.1
          have HBU := Lib.hid HH.out.2.1
          have HSU := Lib.hid HH.out.2.2.1
          have HZU := Lib.hid HH.out.2.2.2
          have HTT := Lib.hid (show (textsT (K.take j)).length ≤ 20301 * j by
            refine Nat.le_trans (textsT_len (K.take j) fun x hx => HPS.out x (List.mem_of_mem_take hx)) ?_
            rw [List.length_take]
            have := Nat.min_le_left j K.length
            exact Nat.mul_le_mul_left _ this)
          clear HH HOB4 HOW HB4 HZ4
          by_cases hlt : j < kl
          · obtain ⟨x, hx⟩ : ∃ x, K[j]? = some x := ⟨_, List.getElem?_eq_getElem (by rw [← HKN.out]; exact hlt)⟩
            have HXS := Lib.hid (HPS.out x (List.mem_of_getElem? hx))
            have HTS := Lib.hid (show textsT (K.take (j + 1)) = textsT (K.take j) ++ x.print ++ [59] by rw [take_snoc hx, textsT_snoc])
            obtain ⟨q', c', hq', -, -, -, hA⟩ := OwnF.arr (cells := fun x : ByteArray => [Value.string x]) (sz := 1) (fun _ => rfl) HSU.out
            simp only [Value.slice.injEq] at hq'
            obtain ⟨rfl, -, rfl⟩ := hq'
            obtain ⟨gs, os, hqs, -, hgs, hcell⟩ := hA j (by rw [List.length_map, ← HKN.out]; exact hlt)
            have hc := hcell j (bsB x.print) (by rw [List.getElem?_map, hx]; rfl) 0 _ rfl
            simp only [Nat.mul_one, Nat.add_zero] at hc
            subst hqs
            obtain ⟨TX_, hTX⟩ : ∃ t, t = textsT (K.take j) := ⟨_, rfl⟩
            rw [← hTX] at HOU HTS HTT
            obtain ⟨PX, hPX⟩ : ∃ t, t = x.print := ⟨_, rfl⟩
            rw [← hPX] at hc HXS HTS
            obtain ⟨SX, hSX⟩ : ∃ s, s = bsB PX := ⟨_, rfl⟩
            rw [← hSX] at hc
            have HSX := Lib.hid hSX
            obtain ⟨LL, hLL⟩ : ∃ l : Bs, l = 83 :: (LT ++ TX_) := ⟨_, rfl⟩
            rw [← hLL] at HOU
            have HLL := Lib.hid hLL
            have hlen1 : LL.length + PX.length ≤ 1099511627776 := by
              rw [hLL, List.length_cons, List.length_append]
              have h1 := HTT.out
              have h2 := HXS.out
              have h3 := HTL.out
              have h4 : 20301 * j ≤ 20301 * 1048576 := Nat.mul_le_mul_left _ (by omega)
              omega
            obtain ⟨pu, nu, cu, rfl⟩ := HOU.out.slice
            clear hx hcell hA hTX hPX hSX hLL hgs
            go_wp2_with (at_builtin; refine wp_append_text rfl _ _ rfl Z.heap.size _ LL rfl HOU.out PX SX HSX.out rfl hlen1 HZU.out ?_)
            intro v2 w2 h1 h2
            have h1 : OwnB w2 Z.heap.size v2 (toJ (LL ++ PX)) := by rw [toJ_app]; exact h1
            have hst := bytes_step HOU.out HSU.out HBU.out HBZ.out.size h2
            have HSW := Lib.hid hst.1
            have HBW := Lib.hid hst.2
            have HZW := Lib.hid (Nat.le_trans HZU.out h2.size)
            have BA : Below w2.heap.size w2 (w2.alloc (.cells #[.int .u8 59] 5)) := ext_alloc (ext_refl _) _
            have HO2A := Lib.hid (h1.later BA)
            have HSA := Lib.hid (HSW.out.later BA)
            have HBA := Lib.hid (HBW.out.trans (BA.mono HBW.out.size))
            have hle : (toJ (LL ++ PX)).length < 1099511627776 := by
              show ((LL ++ PX).map _).length < _
              rw [List.length_map, List.length_append]
              have h1 := HTT.out
              have h2 := HXS.out
              have h3 := HTL.out
              have h4 : 20301 * j ≤ 20301 * 1048576 := Nat.mul_le_mul_left _ (by omega)
              rw [HLL.out, List.length_cons, List.length_append]
              omega
            obtain ⟨pu2, nu2, cu2, rfl⟩ := h1.slice
            obtain ⟨LM, hLM⟩ : ∃ l, l = toJ (LL ++ PX) := ⟨_, rfl⟩
            rw [← hLM] at HO2A hle
            have HLM := Lib.hid hLM
            clear h1 h2 hst BA hLM hc HOU HSU HBU HZU
            go_wp2_with (at_builtin; refine wp_append_byte2 rfl _ _ rfl Z.heap.size _ LM rfl HO2A.out 59 w2.heap.size 1 rfl ?k1 hle ?k3 ?_)
            case k1 => simp [go_sem]
            case k3 => exact Nat.le_trans HZW.out (by simp)
            intro v3 w5 h1 h2 h3
            have hst := bytes_step HO2A.out HSA.out HBA.out HBZ.out.size h2
            have HNO := Lib.hid (show OwnB w5 Z.heap.size v3 (toJ (83 :: (LT ++ textsT (K.take (j + 1))))) by
              have e : toJ (83 :: (LT ++ textsT (K.take (j + 1)))) = toJ (LL ++ PX) ++ [59] := by
                rw [HTS.out, HLL.out, show (83 :: (LT ++ (TX_ ++ PX ++ [59])) : Bs) = (83 :: (LT ++ TX_) ++ PX) ++ [59] by simp, toJ_app]
                rfl
              rw [e, ← HLM.out]; exact h1)
            have HNS := Lib.hid hst.1
            have HNB := Lib.hid hst.2
            have HNZ := Lib.hid (show Z.heap.size ≤ w5.heap.size from Nat.le_trans HZW.out (Nat.le_trans (by simp) h2.size))
            clear h1 h2 h3 hst hle HO2A HSA HBA HSW HBW HZW
            go_wp2_with fail
            go_roundw
            case rel => exact ⟨j + 1, by go_num, hlt, HNO.out, HNB.out, HNS.out, HNZ.out⟩
            case measure => simp [intOf] <;> omega
          · have HE := Lib.hid (show K.take j = K by rw [show j = K.length by rw [← HKN.out]; omega, List.take_length])
            rw [HE.out] at HOU
            obtain ⟨pu, nu, cu, rfl⟩ := HOU.out.slice
            have hconv := conv_own HOU.out
            obtain ⟨R, hR⟩ : ∃ s, s = bsB (83 :: (LT ++ textsT K)) := ⟨_, rfl⟩
            rw [← hR] at hconv
            have HR := Lib.hid hR
            clear hR
            go_wp2_with fail
            refine bodyPost_ret (v := .tuple #[.string R, .int .i64 0]) (by simp [results, Tryz.results9, go_sem]) rfl ⟨?_, HBU.out⟩
            rw [HO2.out, HR.out]
end Go.Proofs.YtklgoajgchfmeaaGreatDoor
