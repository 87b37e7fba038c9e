/- A part of the proof. -/
import Derived.Test.YtklgoajgchfmeaaDoorKr
import Derived.Shelf.Strconv.AppendInt10
import Derived.ArgAppend
import Derived.Lib.SlBytesConst
set_option linter.unusedVariables false
set_option linter.unusedSimpArgs false
namespace Go.Proofs.YtklgoajgchfmeaaDoor
open Go.RowKit Go.Maps Go.ChangeShapes Go.Deep Go.Shelf
set_option maxRecDepth 100000
theorem bits_and_oneS {a : Nat} (ha : a < 65536) : bits .and .i64 (a : Int) 1 = ((a &&& 1 : Nat) : Int) := by
  have := bits_and_nat (a := a) (b := 1) ha (by decide)
  simpa using this
theorem shr_bitS {s j : Nat} (hs : s < 65536) : (bits .and .i64 ((s : Int) / 2 ^ j) 1 == 1) = s.testBit j := by
  have e : (s : Int) / 2 ^ j = ((s / 2 ^ j : Nat) : Int) := by simp
  rw [e, bits_and_oneS (Nat.lt_of_le_of_lt (Nat.div_le_self _ _) hs), Nat.testBit, Nat.and_comm 1, Nat.shiftRight_eq_div_pow]
  have h : s / 2 ^ j &&& 1 = 0 ∨ s / 2 ^ j &&& 1 = 1 := by have h : s / 2 ^ j &&& 1 ≤ 1 := Nat.and_le_right; omega
  rcases h with h | h <;> rw [h] <;> rfl
theorem toJ_bytes (l : Bs) : (toJ l).map (Value.int .u8) = Lib.byteCells l := by
  unfold toJ Lib.byteCells
  rw [List.map_map]
  rfl
theorem appint_any (B : Nat) (z : Int) (l : Bs) (v : Value) (w : World) (hz : inR z = true) (hown : OwnB w B v (toJ l)) (hB : B ≤ w.heap.size) (hG : GE w) (hg : 3 ≤ B) (hn : l.length + 21 ≤ 140737488355328) :
    Calls Tryd.prog 32 #[v, .int .i64 z, .int .i64 10] w fun e w' => ∃ v', e = .returned v' ∧ OwnB w' B v' (toJ (l ++ Lib.itoa z)) ∧ Below B w w' := by
  have ho : w.ownsRow B 5 1 v l.length (Lib.byteCells l) := by
    have := hown
    unfold OwnB at this
    rw [toJ_bytes, show (toJ l).length = l.length from List.length_map _] at this
    exact this
  have h : Calls Tryd.prog 32 #[v, .int .i64 z, .int .i64 10] w _ := Any.strconv_AppendInt_10 Tryd.laysM176 B l.length z (inR_iff.1 hz).1 (inR_iff.1 hz).2 v (Lib.byteCells l) w ho hB hn (fun w' hb => (hG.below hb hg).pow)
  refine h.mono ?_
  rintro e w' ⟨v', rfl, h1, h2, -⟩
  refine ⟨v', rfl, ?_, h2⟩
  unfold OwnB
  rw [toJ_bytes, show (toJ (l ++ Lib.itoa z)).length = l.length + (Lib.itoa z).length by rw [show (toJ (l ++ Lib.itoa z)).length = (l ++ Lib.itoa z).length from List.length_map _, List.length_append]]
  have e : Lib.byteCells (l ++ Lib.itoa z) = Lib.byteCells l ++ Lib.byteCells (Lib.itoa z) := List.map_append
  rw [e]
  exact h1
theorem tabsT_snoc (S : Nat) (t : Int) : ∀ (k : Nat) (l : List Int), tabsT S k (l ++ [t]) = tabsT S k l ++ (if S.testBit (k + l.length) then Lib.itoa t ++ [32] else [])
  | k, [] => by rw [List.nil_append, tabsT, tabsT, tabsT]; simp
  | k, a :: l => by rw [List.cons_append, tabsT, tabsT, tabsT_snoc S t (k + 1) l, List.length_cons, show k + 1 + l.length = k + (l.length + 1) by omega, List.append_assoc]
theorem textsT_snoc (x : Ex) : ∀ l : List Ex, textsT (l ++ [x]) = textsT l ++ x.print ++ [59]
  | [] => by rw [List.nil_append, textsT, textsT, textsT]; simp
  | a :: l => by rw [List.cons_append, textsT, textsT, textsT_snoc x l]; simp
theorem tabsT_len (S : Nat) : ∀ (l : List Int) (k : Nat), (∀ t ∈ l, inR t = true) → (tabsT S k l).length ≤ 22 * l.length
  | [], k, _ => by simp [tabsT]
  | t :: r, k, h => by
    have h1 := tabsT_len S r (k + 1) fun t ht => h t (by simp [ht])
    obtain ⟨a, b⟩ := inR_iff.1 (h t (by simp))
    have h2 := Lib.itoa_length_le t a b
    rw [tabsT, List.length_append, List.length_cons]
    split
    · simp; omega
    · simp; omega
theorem textsT_len : ∀ (l : List Ex), (∀ x ∈ l, x.print.length ≤ 20300) → (textsT l).length ≤ 20301 * l.length
  | [], _ => by simp [textsT]
  | x :: r, h => by
    have h1 := textsT_len r fun y hy => h y (by simp [hy])
    have h2 := h x (by simp)
    rw [textsT]
    simp
    omega
open Go.RowKit Go.Maps Go.ChangeShapes Go.Deep Go.Shelf Go.Sort
set_option maxRecDepth 100000
theorem OwnB.base_leB {w : World} {b b' : Nat} {v : Value} {l : List Int} (h : OwnB w b v l) (hb : b' ≤ b) : OwnB w b' v l := by
  obtain ⟨h1, h2⟩ := h
  refine ⟨h1, ?_⟩
  rcases h2 with h2 | ⟨g, cap, cur, hv, hg, r⟩
  · exact .inl h2
  · exact .inr ⟨g, cap, cur, hv, Nat.le_trans hb hg, r⟩
theorem run_full_string (w : World) (g : Nat) (y : UInt8) (m : Bs) (ty : TypeId) (hc : w.cell? ⟨g, 0, none⟩ = some (.int .u8 y.toNat)) (hm : 0 < m.length ∧ m.length ≤ 100000) :
    ∃ v' w', (Builtin.append_ #[62, 9] ty #[.slice (some ⟨g, 0, none⟩) 1 1, .string (bsB m)]).run Tryd.prog w = .ok v' w' ∧ OwnB w' w.heap.size v' (toJ (y :: m)) ∧ Below w.heap.size w w' := by
  obtain ⟨i0, hi, hz0, hz1, hz2⟩ := info_parts Tryd.infoU8
  have hsz : (bsB m).size = m.length := rfl
  have hr := Lib.run_append_grow_string (P := Tryd.prog) w 62 9 ty 5 i0 _ Tryd.underlying62 Tryd.underlying9 hi hz0 ⟨g, 0, none⟩ 1 1 [.int .u8 y.toNat] (by rw [hz1]; rfl) (fun j v hj => by
    match j, hj with
    | 0, hj => cases hj; simpa [Addr.add] using hc) (bsB m) (by omega) (by rw [hsz]; omega) (growslice_fits (by omega) (by rw [hsz, hz2]; omega))
  refine ⟨_, _, hr, ?_, ?_⟩
  · have hge := grownCap_ge w (1 + (bsB m).size) 1 5
    have hcm := grownCap_le_maxLen w (1 + (bsB m).size) 1 5 (by rw [hsz]; unfold maxLen; omega)
    have e : (toJ (y :: m)).map (Value.int .u8) = [Value.int .u8 y.toNat] ++ Lib.strCells (bsB m) := by rw [toJ_bytes]; rfl
    have hl : (toJ (y :: m)).length = 1 + (bsB m).size := by rw [hsz]; show ((y :: m).map _).length = _; rw [List.length_map, List.length_cons]; omega
    unfold OwnB
    rw [e, hl]
    refine ⟨by rw [List.length_append, Lib.strCells_length]; simp, .inr ⟨w.heap.size, _, _, rfl, Nat.le_refl _, heap_alloc_new w.drew _, hge, hcm, ?_, ?_⟩⟩
    · have hz1 : (Value.int IntKind.u8 0).cells.size = 1 := rfl
      simp only [Array.size_append, List.size_toArray, size_zeroCells, hz1, Lib.strCells_length, List.length_cons, List.length_nil]
      omega
    · simp only [Array.toList_append, List.append_assoc]
      have h5 : ([Value.int .u8 (y.toNat : Int)] ++ Lib.strCells (bsB m)).length = (1 + (bsB m).size) * 1 := by rw [List.length_append, Lib.strCells_length]; simp
      rw [← List.append_assoc, ← h5]
      exact List.take_left
  · exact ext_alloc (ext_drew (ext_refl _)) _
theorem run_full_bytes (w : World) (g h c : Nat) (y : UInt8) (m : Bs) (ty : TypeId) (hc : w.cell? ⟨g, 0, none⟩ = some (.int .u8 y.toNat)) (hm : 0 < m.length ∧ m.length ≤ 100000) (hh : ∀ j u, (Lib.byteCells m)[j]? = some u → w.cell? ((⟨h, 0, none⟩ : Addr).add j) = some u) :
    ∃ v' w', (Builtin.append_ #[62, 62] ty #[.slice (some ⟨g, 0, none⟩) 1 1, .slice (some ⟨h, 0, none⟩) m.length c]).run Tryd.prog w = .ok v' w' ∧ OwnB w' w.heap.size v' (toJ (y :: m)) ∧ Below w.heap.size w w' := by
  obtain ⟨i0, hi, hz0, hz1, hz2⟩ := info_parts Tryd.infoU8
  obtain ⟨v', w', hr, h1, h2⟩ := run_append_arg_grows (P := Tryd.prog) (w := w) 62 ty 5 i0 (.int .u8 0) 1 1 Tryd.underlying62 hi hz0 hz1 hz2 rfl (by decide) ⟨g, 0, none⟩ 1 1 [.int .u8 y.toNat] rfl (fun j v hj => by
    match j, hj with
    | 0, hj => cases hj; simpa [Addr.add] using hc) ⟨h, 0, none⟩ m.length c (Lib.byteCells m) (by rw [Lib.byteCells_length]; omega) hh (by omega) (by unfold maxLen; omega) (by omega)
  refine ⟨v', w', hr, ?_, (Below.refl _ _).grown h2 (Nat.le_refl _) (fun k hk => by cases hk)⟩
  have hl : (toJ (y :: m)).length = 1 + m.length := by show ((y :: m).map _).length = _; rw [List.length_map, List.length_cons]; omega
  unfold OwnB
  rw [toJ_bytes, hl]
  exact h1
theorem wp_run_appendS {w : World} {ops : Array Oper} {rest : List Oper} {o : Oper} {a : Act} {Q : Exit → Act → World → Prop} (hgd : o.guard = none) (s x : Operand) (t u : TypeId)
    (ho : o.op = .call { callee := .builtin .append, args := #[s, x], argTypes := #[t, u] }) (v y r : Value) (w1 : World) (hs : a.eval s = v) (hx : a.eval x = y)
    (hr : (Builtin.append_ #[t, u] o.type #[v, y]).run Tryd.prog w = .ok r w1) (h : wpList Tryd.prog ops Q rest (a.put o.dst r) w1) : wpList Tryd.prog ops Q (o :: rest) a w := by
  refine wpList_plain hgd fun K hK => ?_
  unfold Oper.wp execOp
  simp only [ho, resolve, invoke, builtin, Sem.run_bind, Sem.run_pure, Result.andThen_ok, List.map_toArray, List.map_cons, List.map_nil, hs, hx, hr]
  exact hK _ _ h
theorem digits_len {u : Nat} (hu : u < 18446744073709551616) : 0 < (Lib.decDigits u).length ∧ (Lib.decDigits u).length ≤ 20 := by
  rw [Lib.decDigits_length]
  refine ⟨Lib.nDigits_pos u, ?_⟩
  by_cases h : 1 ≤ u
  · have := Lib.numDigits_eq u h hu
    split at this <;> omega
  · obtain rfl : u = 0 := by omega
    rw [Lib.nDigits_small (by decide)]; omega
set_option maxHeartbeats 8000000 in
theorem appuint_small (g u : Nat) (y : UInt8) (hu : u < 100) (w : World) (hc : w.cell? ⟨g, 0, none⟩ = some (.int .u8 y.toNat)) :
    Calls Tryd.prog 59 #[.slice (some ⟨g, 0, none⟩) 1 1, .int .u64 u, .int .i64 10] w fun e w' => ∃ v', e = .returned v' ∧ OwnB w' w.heap.size v' (toJ (y :: Lib.decDigits u)) ∧ Below w.heap.size w w' := by
  have HS : ∀ W, Calls Tryd.prog 67 #[.int .i64 u] W fun e w' => e = .returned (.string ⟨(Lib.decDigits u).toArray⟩) ∧ w' = W := fun W => Any.internal_strconv_small (ρ := Tryd.laysM176_ren) { Tryd.laysM176 with } u hu W
  have HS := Lib.hid HS
  obtain ⟨v', w1, hr, h1, h2⟩ := run_full_string w g y (Lib.decDigits u) 62 hc ⟨(digits_len (by omega)).1, Nat.le_trans (digits_len (by omega)).2 (by decide)⟩
  have HR := Lib.hid hr
  have H1 := Lib.hid h1
  clear hr h1
  go_enter Tryd.func59, Tryd.ntmps59
  go_wp2_with (first
    | (go_at_call 67; refine (HS.out _).mono ?_; rintro e w' ⟨rfl, rfl⟩)
    | (at_builtin; refine wp_run_appendS rfl _ _ 62 9 rfl _ _ v' w1 rfl rfl HR.out ?_))
  refine bodyPost_ret (v := v') (by simp [results, Tryd.results59, go_sem]) rfl ⟨v', rfl, H1.out, h2⟩
set_option maxHeartbeats 16000000 in
theorem appuint_big (g u : Nat) (y : UInt8) (hu : 100 ≤ u) (hu64 : u < 18446744073709551616) (w : World) (hc : w.cell? ⟨g, 0, none⟩ = some (.int .u8 y.toNat)) (hG : GE w) :
    Calls Tryd.prog 59 #[.slice (some ⟨g, 0, none⟩) 1 1, .int .u64 u, .int .i64 10] w fun e w' => ∃ v', e = .returned v' ∧ OwnB w' w.heap.size v' (toJ (y :: Lib.decDigits u)) ∧ Below w.heap.size w w' := by
  have hu1 : 1 ≤ u := by omega
  have hnd20 : Lib.nDigits u ≤ 20 := by have := (digits_len hu64).2; rw [Lib.decDigits_length] at this; exact this
  have HND := Lib.hid (fun W (ht : Lib.TabIs Tryd.prog W "internal/strconv.uint64pow10" .u64 Lib.pow10Tab) => (show Calls Tryd.prog 68 #[.int .u64 u] W fun e w' => e = .returned (.int .i64 (Lib.nDigits u)) ∧ w' = W from Any.internal_strconv_numDigits (ρ := Tryd.laysM176_ren) { Tryd.laysM176 with } u hu1 hu64 W ht))
  have T24 : Tryd.prog.underlying 97 = some (.array 24 5) := Tryd.underlying97
  have hal : Tryd.prog.arrayLen 97 = 24 := by simp [Program.arrayLen, T24]
  have hsl : ∀ W, (Instr.sliceAt 97 (.pointer (some ⟨w.heap.size, 0, none⟩)) none (some (.int .i64 (Lib.nDigits u : Int))) none).run Tryd.prog W = .ok (.slice (some ⟨w.heap.size, 0, none⟩) (Lib.nDigits u) 24) W := fun W => by
    rw [run_sliceAt_array_h W 97 ⟨w.heap.size, 0, none⟩ (by simp [Program.arrayLen, Program.elem, T24]) .i64 (Lib.nDigits u : Int) (by omega) (by rw [hal]; omega)]
    go_simp
  have hH0 := Lib.holds_zero0 w 97 (Lib.nDigits u) (by omega)
  have hfmt := Any.internal_strconv_formatBase10 (ρ := Tryd.laysM176_ren) (P := Tryd.prog) { Tryd.laysM176 with } w.heap.size 0 24 u (Array.replicate (Lib.nDigits u) 0) (w.alloc (.cells Lib.zeros24 97)) hH0 (by rw [Array.size_replicate]; exact Lib.lt_pow_nDigits u) hu64 (by rw [Array.size_replicate]; omega)
  rw [Array.size_replicate] at hfmt
  have HF := Lib.hid (show Calls Tryd.prog 69 #[.slice (some ⟨w.heap.size, 0, none⟩) (Lib.nDigits u) 24, .int .u64 u] (w.alloc (.cells Lib.zeros24 97)) _ from hfmt)
  have HH0 := Lib.hid hH0
  have HTAB := Lib.hid (hG.on (ext_alloc (ext_refl w) (.cells Lib.zeros24 97))).pow
  have HC := Lib.hid hc
  have iu : (100 : Int) ≤ (u : Int) := by omega
  clear hH0 hal hfmt hG hc T24
  go_enter Tryd.func59, Tryd.ntmps59
  go_wp2_with (first
    | (go_at_call 68; refine (HND.out _ HTAB.out).mono ?_; rintro e w' ⟨rfl, rfl⟩))
  refine HF.out.mono ?_
  rintro e w' ⟨rfl, k, v', dk, rfl, hF⟩
  have hcells : ∀ j u', (Lib.byteCells (Lib.decDigits u))[j]? = some u' → ((putRow (fun (b : UInt8) => Value.int .u8 (b.toNat : Int)) (w.alloc (.cells Lib.zeros24 97)) w.heap.size 0 dk).drewN k).cell? ((⟨w.heap.size, 0, none⟩ : Addr).add j) = some u' := by
    intro j u' hj
    have hjl : j < (Lib.decDigits u).length := by
      have h5 := (List.getElem?_eq_some_iff.1 hj).1
      rwa [Lib.byteCells_length] at h5
    have e5 : (Lib.byteCells (Lib.decDigits u))[j]? = some (Value.int .u8 ((Lib.decDigits u)[j].toNat : Int)) := by simp [Lib.byteCells, hjl]
    rw [e5] at hj
    cases hj
    rw [Lib.row_is_numeral hF j hjl, Lib.add_plain, World.cell?_drewN]
    exact cell?_putRow (fun (b : UInt8) => Value.int .u8 (b.toNat : Int)) _ w.heap.size 0 _ dk HH0.out (by rw [hF.size, Array.size_replicate]) j (by rw [hF.size]; rw [Lib.decDigits_length] at hjl; exact hjl)
  obtain ⟨os, eo⟩ := Lib.fin_at w (.cells Lib.zeros24 97) dk k 0
  have hnx2 : Below w.heap.size w ((putRow (fun (b : UInt8) => Value.int .u8 (b.toNat : Int)) (w.alloc (.cells Lib.zeros24 97)) w.heap.size 0 dk).drewN k) := by rw [eo]; exact Lib.below_grow w.heap.size w (Nat.le_refl _) k os
  generalize (putRow (fun (b : UInt8) => Value.int .u8 (b.toNat : Int)) (w.alloc (.cells Lib.zeros24 97)) w.heap.size 0 dk).drewN k = W2 at hcells hnx2 ⊢
  have hgl : g < w.heap.size := World.block_lt_of_cell? w ⟨g, 0, none⟩ (by rw [HC.out])
  obtain ⟨vf, w1, hr, h1, h2⟩ := run_full_bytes W2 g w.heap.size 24 y (Lib.decDigits u) 62 ((hnx2.cell (p := ⟨g, 0, none⟩) hgl).trans HC.out) ⟨(digits_len hu64).1, Nat.le_trans (digits_len hu64).2 (by decide)⟩ hcells
  rw [Lib.decDigits_length] at hr
  have HR := Lib.hid hr
  have H1 := Lib.hid (h1.base_leB hnx2.size)
  have HB := Lib.hid (hnx2.trans (h2.mono hnx2.size))
  clear eo hr h1 h2 hcells hnx2 hgl
  go_wp2_with (at_builtin; refine wp_run_appendS rfl _ _ 62 62 rfl _ _ vf w1 rfl rfl HR.out ?_)
  refine bodyPost_ret (v := vf) (by simp [results, Tryd.results59, go_sem]) rfl ⟨vf, rfl, H1.out, HB.out⟩
theorem appuint_full (g u : Nat) (y : UInt8) (hu64 : u < 18446744073709551616) (w : World) (hc : w.cell? ⟨g, 0, none⟩ = some (.int .u8 y.toNat)) (hG : GE w) :
    Calls Tryd.prog 59 #[.slice (some ⟨g, 0, none⟩) 1 1, .int .u64 u, .int .i64 10] w fun e w' => ∃ v', e = .returned v' ∧ OwnB w' w.heap.size v' (toJ (y :: Lib.decDigits u)) ∧ Below w.heap.size w w' := by
  by_cases h : u < 100
  · exact appuint_small g u y h w hc
  · exact appuint_big g u y (by omega) hu64 w hc hG
set_option maxHeartbeats 8000000 in
theorem appint_full (g : Nat) (y : UInt8) (z : Int) (hz : inR z = true) (w : World) (hc : w.cell? ⟨g, 0, none⟩ = some (.int .u8 y.toNat)) (hG : GE w) :
    Calls Tryd.prog 32 #[.slice (some ⟨g, 0, none⟩) 1 1, .int .i64 z, .int .i64 10] w fun e w' => ∃ v', e = .returned v' ∧ OwnB w' w.heap.size v' (toJ (y :: Lib.itoa z)) ∧ Below w.heap.size w w' := by
  obtain ⟨z1, z2⟩ := inR_iff.1 hz
  have HG := Lib.hid hG
  have HI : Calls Tryd.prog 46 #[.slice (some ⟨g, 0, none⟩) 1 1, .int .i64 z, .int .i64 10] w fun e w' => ∃ v', e = .returned v' ∧ OwnB w' w.heap.size v' (toJ (y :: Lib.itoa z)) ∧ Below w.heap.size w w' := by
    by_cases hneg : z < 0
    · obtain ⟨u, rfl⟩ : ∃ u : Nat, z = -(u : Int) := ⟨z.natAbs, by omega⟩
      have hu1 : 1 ≤ u := by omega
      have hu64 : u < 18446744073709551616 := by omega
      have hwr : IntKind.u64.wrap (-IntKind.u64.wrap (-(u : Int))) = (u : Int) := by rw [IntKind.wrap_u64, IntKind.wrap_u64]; omega
      rw [Lib.itoa_neg u hu1]
      have B1 : Below w.heap.size w (w.alloc (.cells #[.int .u8 45] 5)) := ext_alloc (ext_refl _) _
      have hgl : g < w.heap.size := World.block_lt_of_cell? w ⟨g, 0, none⟩ (by rw [hc])
      obtain ⟨v1, w1, hr, h1, h2⟩ := run_full_bytes (w.alloc (.cells #[.int .u8 45] 5)) g w.heap.size 1 y [45] 62 ((B1.cell (p := ⟨g, 0, none⟩) hgl).trans hc) ⟨by decide, by decide⟩ (fun j u' hj => by
        match j, hj with
        | 0, hj => cases hj; simp [Addr.add])
      have HR := Lib.hid hr
      have hb1 : Below w.heap.size w w1 := B1.trans (h2.mono B1.size)
      have H1 := Lib.hid (h1.base_leB B1.size)
      have hG1 := HG.out.on hb1
      have HU : Calls Tryd.prog 59 #[v1, .int .u64 (u : Int), .int .i64 10] w1 fun e w' => ∃ v', e = .returned v' ∧ OwnB w' w.heap.size v' (toJ (y :: 45 :: Lib.decDigits u)) ∧ Below w.heap.size w1 w' := by
        have ho : w1.ownsRow w.heap.size 5 1 v1 2 (Lib.byteCells [y, 45]) := by
          have h := H1.out
          unfold OwnB at h
          rw [toJ_bytes] at h
          exact h
        have h : Calls Tryd.prog 59 #[v1, .int .u64 (u : Int), .int .i64 10] w1 _ := Any.internal_strconv_AppendUint_10 (ρ := Tryd.laysM176_ren) { Tryd.laysM176 with } w.heap.size 2 u hu64 v1 (Lib.byteCells [y, 45]) w1 ho hb1.size (by omega) hG1.pow
        refine h.mono ?_
        rintro e w' ⟨v', rfl, k1, k2, -⟩
        refine ⟨v', rfl, ?_, k2⟩
        unfold OwnB
        rw [toJ_bytes, show (toJ (y :: 45 :: Lib.decDigits u)).length = 2 + (Lib.decDigits u).length by show ((y :: 45 :: Lib.decDigits u).map _).length = _; rw [List.length_map, List.length_cons, List.length_cons]; omega]
        exact k1
      have HU := Lib.hid HU
      have HB1 := Lib.hid hb1
      clear hr h1 h2 hb1 hG1 hgl B1 hc z1 z2 hz
      go_enter Tryd.func46, Tryd.ntmps46
      go_wp2_with (at_builtin; refine wp_run_appendS rfl _ _ 62 62 rfl _ _ v1 w1 rfl rfl HR.out ?_)
      refine HU.out.mono ?_
      rintro e w2 ⟨v2, rfl, k1, k2⟩
      have K1 := Lib.hid k1
      have K2 := Lib.hid (HB1.out.trans k2)
      clear k1 k2
      go_wp2_with fail
      refine bodyPost_ret (v := v2) (by simp [results, Tryd.results46, go_sem]) rfl ⟨v2, rfl, K1.out, K2.out⟩
    · obtain ⟨u, rfl⟩ : ∃ u : Nat, z = u := ⟨z.toNat, by omega⟩
      have hu64 : u < 18446744073709551616 := by omega
      rw [Lib.itoa_nonneg]
      have HU := Lib.hid (appuint_full g u y hu64 w hc hG)
      clear hc hG z1 z2 hz
      go_enter Tryd.func46, Tryd.ntmps46
      go_wp2_with fail
      refine HU.out.mono ?_
      rintro e w2 ⟨v2, rfl, k1, k2⟩
      have K1 := Lib.hid k1
      clear k1
      go_wp2_with fail
      refine bodyPost_ret (v := v2) (by simp [results, Tryd.results46, go_sem]) rfl ⟨v2, rfl, K1.out, k2⟩
  have HI := Lib.hid HI
  clear hc hG z1 z2 hz
  go_enter Tryd.func32, Tryd.ntmps32
  go_wp2_with fail
  refine HI.out.mono ?_
  rintro e w2 ⟨v2, rfl, k1, k2⟩
  have K1 := Lib.hid k1
  clear k1
  go_wp2_with fail
  refine bodyPost_ret (v := v2) (by simp [results, Tryd.results32, go_sem]) rfl ⟨v2, rfl, K1.out, k2⟩
end Go.Proofs.YtklgoajgchfmeaaDoor
