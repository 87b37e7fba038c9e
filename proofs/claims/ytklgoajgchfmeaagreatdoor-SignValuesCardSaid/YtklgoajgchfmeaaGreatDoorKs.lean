/- A part of the proof. -/
import Derived.Test.YtklgoajgchfmeaaGreatDoorKr
import Derived.Test.YtklgoajgchfmeaaGreatDoorKb
import Derived.Test.YtklgoajgchfmeaaGreatDoorTxE
set_option linter.unusedVariables false
set_option linter.unusedSimpArgs false
namespace Go.Proofs.YtklgoajgchfmeaaGreatDoor
open Go.RowKit Go.Maps Go.ChangeShapes Go.Deep Go.Shelf
set_option maxRecDepth 100000
theorem ex_leaf {w : World} {P : Nat → Prop} {op : Int} {v : Val} {rel col n : Int} {s : ByteArray} {cs : List Value} (h : ExMP w P (.mk op v rel col n s []) cs) : ∃ q c, cs = exCells op v rel col n s q 0 c := by
  rw [ExMP.iff] at h
  obtain ⟨-, q, c, rfl, -, -⟩ := h
  exact ⟨q, c, rfl⟩
theorem ex_two {w : World} {P : Nat → Prop} {op : Int} {v : Val} {rel col n : Int} {s : ByteArray} {a b : Ex} {cs : List Value} (h : ExMP w P (.mk op v rel col n s [a, b]) cs) : ∃ g off c ca cb, cs = exCells op v rel col n s (some ⟨g, off, none⟩) 2 c ∧ 2 ≤ c ∧ g < w.heap.size ∧ ExMP w P a ca ∧ ExMP w P b cb ∧
    (∀ (k : Nat) u, ca[k]? = some u → w.cell? ⟨g, off + k, none⟩ = some u) ∧ ∀ (k : Nat) u, cb[k]? = some u → w.cell? ⟨g, off + 9 + k, none⟩ = some u := by
  rw [ExMP.iff] at h
  obtain ⟨-, q, c, rfl, hc, hl⟩ := h
  obtain ⟨g, off, ca, hq, hg, -, ha, hca⟩ := ExLP.at_ (j := 0) (x := a) hl rfl
  obtain ⟨g', off', cb, hq', -, -, hb, hcb⟩ := ExLP.at_ (j := 1) (x := b) hl rfl
  subst hq
  obtain ⟨rfl, rfl⟩ : g = g' ∧ off = off' := by simpa using hq'
  refine ⟨g, off, c, ca, cb, rfl, hc, hg, ha, hb, fun k u hu => ?_, fun k u hu => ?_⟩
  · have := hca k u hu; simpa using this
  · have := hcb k u hu; simpa using this
abbrev rfX (rel col : Int) : Ex := .mk 2 zeroVal rel col 0 ⟨#[]⟩ []
abbrev nmX (k : Int) : Ex := .mk 1 (num k) 0 0 0 ⟨#[]⟩ []
abbrev opX (op : Int) (a b : Ex) : Ex := .mk op zeroVal 0 0 0 ⟨#[]⟩ [a, b]
theorem rfX_in (w : World) (P : Nat → Prop) (rel col : Int) : ExMP w P (rfX rel col) (exCells 2 zeroVal rel col 0 ⟨#[]⟩ none 0 0) := ExMP.iff.2 ⟨⟨by decide, by decide, by decide⟩, none, 0, rfl, Nat.le_refl _, by rw [ExLP]; trivial⟩
theorem nmX_in (w : World) (P : Nat → Prop) (k : Int) (hk : inR k = true) : ExMP w P (nmX k) (exCells 1 (num k) 0 0 0 ⟨#[]⟩ none 0 0) := ExMP.iff.2 ⟨⟨(by decide : inR 1 = true), hk, (by decide : (0 : Nat) ≤ maxLen)⟩, none, 0, rfl, Nat.le_refl _, by rw [ExLP]; trivial⟩
theorem opX_in (w : World) (T : TypeId) (op : Int) (a b : Ex) (ca cb : List Value) (ha : ExM (w.alloc (.cells (ca ++ cb).toArray T)) a ca) (hb : ExM (w.alloc (.cells (ca ++ cb).toArray T)) b cb) : ExM (w.alloc (.cells (ca ++ cb).toArray T)) (opX op a b) (exCells op zeroVal 0 0 0 ⟨#[]⟩ (some ⟨w.heap.size, 0, none⟩) 2 2) :=
  ExM.iff.2 ⟨⟨by decide, by decide, by decide⟩, _, 2, rfl, Nat.le_refl _, ExLP.toL _ _ _ (ExLP.two (P := fun _ => True) (ExMP.on (Nat.le_refl _) (fun _ _ _ => rfl) (fun _ _ _ => trivial) _ _ (ExM.toP _ _ ha)) (ExMP.on (Nat.le_refl _) (fun _ _ _ => rfl) (fun _ _ _ => trivial) _ _ (ExM.toP _ _ hb)) (by simp) trivial fun k u hu => by rw [Lib.cell_of_heap (heap_alloc_new w _), List.getElem?_toArray]; exact hu)⟩
theorem intsA_new (w : World) (T : TypeId) (l : List Int) : IntsA (w.alloc (.cells (l.map (Value.int .i64)).toArray T)) 0 (w.alloc (.cells (l.map (Value.int .i64)).toArray T)).heap.size (some ⟨w.heap.size, 0, none⟩) l := fun i hi => ⟨w.heap.size, 0, rfl, Nat.zero_le _, by simp, fun j x hx => by
  show World.cell? _ ⟨w.heap.size, 0 + j * 1, none⟩ = some (.int .i64 x)
  rw [Lib.cell_of_heap (heap_alloc_new w _), List.getElem?_toArray, Nat.zero_add, Nat.mul_one, List.getElem?_map, hx]
  rfl⟩
theorem eg_n1 : normR (opX 13 (rfX 1 0) (nmX 5)) = opX 11 (nmX 5) (rfX 1 0) ∧ errR (opX 13 (rfX 1 0) (nmX 5)) = 0 := by
  have h : rightE (opX 13 (rfX 1 0) (nmX 5)) = true := by decide +kernel
  unfold normR errR
  rw [if_pos h, if_pos h]
  exact ⟨by kernel_rfl, rfl⟩
theorem eg_n2 : normR (opX 9 (rfX 1 0) (rfX 0 0)) = opX 9 (rfX 0 0) (rfX 1 0) ∧ errR (opX 9 (rfX 1 0) (rfX 0 0)) = 0 := by
  have h : rightE (opX 9 (rfX 1 0) (rfX 0 0)) = true := by decide +kernel
  unfold normR errR
  rw [if_pos h, if_pos h]
  exact ⟨by kernel_rfl, rfl⟩
theorem eg_of : ofE [3] 1 [] 1 = ([83, 51, 32], 0) := by kernel_rfl
theorem dof_eg (w : World) (g : Nat) (hg : g = w.heap.size) (hG : GE (w.alloc (.cells #[.int .i64 3] 3))) : Calls Tryz.prog 9 #[.agg #[.slice (some ⟨g, 0, none⟩) 1 1, .int .i64 1, .slice none 0 0, .slice none 0 0, .slice none 0 0, .slice none 0 0, .slice none 0 0, .bool false, .slice none 0 0, .slice none 0 0, .bool false], .int .i64 1] (w.alloc (.cells #[.int .i64 3] 3)) fun e w' => e = .returned (.tuple #[.string (bsB [83, 51, 32]), .int .i64 0]) ∧ Below (w.alloc (.cells #[.int .i64 3] 3)).heap.size (w.alloc (.cells #[.int .i64 3] 3)) w' := by
  subst hg
  obtain ⟨r, hr⟩ : ∃ r : RawK, r = ⟨⟨some ⟨w.heap.size, 0, none⟩, 1, 1⟩, 1, ⟨none, 0, 0⟩, ⟨none, 0, 0⟩, ⟨none, 0, 0⟩, ⟨none, 0, 0⟩, ⟨none, 0, 0⟩, false, ⟨none, 0, 0⟩, ⟨none, 0, 0⟩, false⟩ := ⟨_, rfl⟩
  have BI : BlkIn (w.alloc (.cells #[.int .i64 3] 3)) r [3] [] := by
    subst hr
    exact ⟨rfl, ⟨Nat.le_refl 1, (by decide : 1 ≤ 9223372036854775807)⟩, intsA_new w 3 [3], rfl, ⟨Nat.le_refl 0, Nat.zero_le _⟩, by rw [ExL]; trivial, by decide⟩
  have hc : r.core = 1 := by rw [hr]
  have h := dof_any r [3] [] 1 _ BI hG (by decide) (by rw [hc]; decide) (by decide) (by decide)
  rw [hc, eg_of] at h
  rw [hr] at h
  exact h
set_option maxHeartbeats 8000000 in
theorem examples12_any (w : World) (hG : GE w) : Calls Tryz.prog 4 #[] w fun e w' => e = .returned (.bool true) ∧ Below w.heap.size w w' := by
  have HG := Lib.hid hG
  clear hG
  go_enter Tryz.func4, Tryz.ntmps4
  go_wp2_with fail
  have X1 := opX_in (w.alloc (.cells (exCells 1 (num 5) 0 0 0 ⟨#[]⟩ none 0 0).toArray 26)) 26 13 (rfX 1 0) (nmX 5) _ _ (ExMP.toM _ _ (rfX_in _ (fun _ => True) 1 0)) (ExMP.toM _ _ (nmX_in _ (fun _ => True) 5 (by decide)))
  have B1 : Below w.heap.size w ((w.alloc (.cells (exCells 1 (num 5) 0 0 0 ⟨#[]⟩ none 0 0).toArray 26)).alloc (.cells (exCells 2 zeroVal 1 0 0 ⟨#[]⟩ none 0 0 ++ exCells 1 (num 5) 0 0 0 ⟨#[]⟩ none 0 0).toArray 26)) := by (repeat (first | exact ext_refl _ | assumption | (refine ext_alloc ?_ _) | (refine ext_drewN ?_ _) | refine ext_drew ?_ | (refine ext_set (by first | (simp; done) | (simp; omega)) _ ?_) | (refine ext_trans ?_ (by assumption))))
  rw [World.size_alloc] at X1
  change Calls Tryz.prog 5 #[.agg (exCells 13 zeroVal 0 0 0 ⟨#[]⟩ (some ⟨w.heap.size + 1, 0, none⟩) 2 2).toArray] ((w.alloc (.cells (exCells 1 (num 5) 0 0 0 ⟨#[]⟩ none 0 0).toArray 26)).alloc (.cells (exCells 2 zeroVal 1 0 0 ⟨#[]⟩ none 0 0 ++ exCells 1 (num 5) 0 0 0 ⟨#[]⟩ none 0 0).toArray 26)) _
  generalize (w.alloc (.cells (exCells 1 (num 5) 0 0 0 ⟨#[]⟩ none 0 0).toArray 26)).alloc (.cells (exCells 2 zeroVal 1 0 0 ⟨#[]⟩ none 0 0 ++ exCells 1 (num 5) 0 0 0 ⟨#[]⟩ none 0 0).toArray 26) = W1 at X1 B1 ⊢
  refine (dnormal_any _ _ W1 X1 (HG.out.on B1)).mono ?_
  rintro e Y ⟨⟨r1, rfl, hP1⟩, hb1⟩
  rw [eg_n1.1] at hP1
  rw [eg_n1.2]
  have HB1 := Lib.hid (B1.trans (hb1.mono B1.size))
  have HP1 := Lib.hid hP1
  obtain ⟨g1, o1, c1, ca1, cb1, hr1, -, hg1, -, hcb1, -, hcell1⟩ := ex_two hP1
  obtain ⟨qx1, cx1, rfl⟩ := ex_leaf hcb1
  have e1 := RawE.inj (r' := ⟨11, zeroVal, 0, 0, 0, ⟨#[]⟩, some ⟨g1, o1, none⟩, 2, c1⟩) hr1
  subst e1
  have f1 := hcell1 4 _ rfl
  clear X1 B1 hb1 hP1 hr1 hcb1 hcell1
  go_wp2_with fail
  have K1 := KB.new Y (exCells 11 zeroVal 0 0 0 ⟨#[]⟩ (some ⟨g1, o1, none⟩) 2 c1) 26
  have X2 := opX_in (Y.alloc (.cells (exCells 11 zeroVal 0 0 0 ⟨#[]⟩ (some ⟨g1, o1, none⟩) 2 c1).toArray 26)) 26 9 (rfX 1 0) (rfX 0 0) _ _ (ExMP.toM _ _ (rfX_in _ (fun _ => True) 1 0)) (ExMP.toM _ _ (rfX_in _ (fun _ => True) 0 0))
  have B2 : Below Y.heap.size Y ((Y.alloc (.cells (exCells 11 zeroVal 0 0 0 ⟨#[]⟩ (some ⟨g1, o1, none⟩) 2 c1).toArray 26)).alloc (.cells (exCells 2 zeroVal 1 0 0 ⟨#[]⟩ none 0 0 ++ exCells 2 zeroVal 0 0 0 ⟨#[]⟩ none 0 0).toArray 26)) := by (repeat (first | exact ext_refl _ | assumption | (refine ext_alloc ?_ _) | (refine ext_drewN ?_ _) | refine ext_drew ?_ | (refine ext_set (by first | (simp; done) | (simp; omega)) _ ?_) | (refine ext_trans ?_ (by assumption))))
  have K1 := K1.on (ext_alloc (ext_refl _) (.cells (exCells 2 zeroVal 1 0 0 ⟨#[]⟩ none 0 0 ++ exCells 2 zeroVal 0 0 0 ⟨#[]⟩ none 0 0).toArray 26))
  rw [World.size_alloc] at X2
  change Calls Tryz.prog 5 #[.agg (exCells 9 zeroVal 0 0 0 ⟨#[]⟩ (some ⟨Y.heap.size + 1, 0, none⟩) 2 2).toArray] ((Y.alloc (.cells (exCells 11 zeroVal 0 0 0 ⟨#[]⟩ (some ⟨g1, o1, none⟩) 2 c1).toArray 26)).alloc (.cells (exCells 2 zeroVal 1 0 0 ⟨#[]⟩ none 0 0 ++ exCells 2 zeroVal 0 0 0 ⟨#[]⟩ none 0 0).toArray 26)) _
  generalize (Y.alloc (.cells (exCells 11 zeroVal 0 0 0 ⟨#[]⟩ (some ⟨g1, o1, none⟩) 2 c1).toArray 26)).alloc (.cells (exCells 2 zeroVal 1 0 0 ⟨#[]⟩ none 0 0 ++ exCells 2 zeroVal 0 0 0 ⟨#[]⟩ none 0 0).toArray 26) = W2 at X2 B2 K1 ⊢
  have f1 : W2.cell? ⟨g1, o1 + 9 + 4, none⟩ = some (.int .i64 1) := (B2.cell (p := ⟨g1, o1 + 9 + 4, none⟩) hg1).trans f1
  have hg1 : g1 < W2.heap.size := Nat.lt_of_lt_of_le hg1 B2.size
  refine (dnormal_any _ _ W2 X2 (HG.out.on (HB1.out.trans (B2.mono HB1.out.size)))).mono ?_
  rintro e Z ⟨⟨r2, rfl, hP2⟩, hb2⟩
  rw [eg_n2.1] at hP2
  rw [eg_n2.2]
  have HB2 := Lib.hid (HB1.out.trans ((B2.trans (hb2.mono B2.size)).mono HB1.out.size))
  obtain ⟨g2, o2, c2, ca2, cb2, hr2, -, hg2, hca2, -, hcell2, -⟩ := ex_two hP2
  obtain ⟨qx2, cx2, rfl⟩ := ex_leaf hca2
  have e2 := RawE.inj (r' := ⟨9, zeroVal, 0, 0, 0, ⟨#[]⟩, some ⟨g2, o2, none⟩, 2, c2⟩) hr2
  subst e2
  have f2 := hcell2 4 _ rfl
  have K1 := K1.on hb2
  have f1 : Z.cell? ⟨g1, o1 + 9 + 4, none⟩ = some (.int .i64 1) := (hb2.cell (p := ⟨g1, o1 + 9 + 4, none⟩) hg1).trans f1
  have hg1 : g1 < Z.heap.size := Nat.lt_of_lt_of_le hg1 hb2.size
  obtain ⟨ga, hga⟩ : ∃ g, g = Y.heap.size := ⟨_, rfl⟩
  rw [← hga] at K1 ⊢
  clear X2 B2 hb2 hP2 hr2 hca2 hcell2 hga HB1
  have ltA := K1.lt
  have a0 := K1.c 0 _ rfl
  have a8 := K1.c 8 _ rfl
  clear K1
  go_wp2_with fail
  have K2 := KB.new Z (exCells 9 zeroVal 0 0 0 ⟨#[]⟩ (some ⟨g2, o2, none⟩) 2 c2) 26
  have B3 : Below Z.heap.size Z ((Z.alloc (.cells (exCells 9 zeroVal 0 0 0 ⟨#[]⟩ (some ⟨g2, o2, none⟩) 2 c2).toArray 26)).alloc (.cells #[.int .i64 3] 3)) := by (repeat (first | exact ext_refl _ | assumption | (refine ext_alloc ?_ _) | (refine ext_drewN ?_ _) | refine ext_drew ?_ | (refine ext_set (by first | (simp; done) | (simp; omega)) _ ?_) | (refine ext_trans ?_ (by assumption))))
  have K2 := K2.on (ext_alloc (ext_refl _) (.cells #[.int .i64 3] 3))
  refine Calls.mono (dof_eg (Z.alloc (.cells (exCells 9 zeroVal 0 0 0 ⟨#[]⟩ (some ⟨g2, o2, none⟩) 2 c2).toArray 26)) (Z.heap.size + 1) (by rw [World.size_alloc]) (HG.out.on (HB2.out.trans (B3.mono HB2.out.size)))) ?_
  rintro e V ⟨rfl, hb3⟩
  have HB3 := Lib.hid (HB2.out.trans ((B3.trans (hb3.mono B3.size)).mono HB2.out.size))
  have K2 := K2.on hb3
  have f1 : V.cell? ⟨g1, o1 + 9 + 4, none⟩ = some (.int .i64 1) := ((B3.trans (hb3.mono B3.size)).cell (p := ⟨g1, o1 + 9 + 4, none⟩) hg1).trans f1
  have f2 : V.cell? ⟨g2, o2 + 4, none⟩ = some (.int .i64 0) := ((B3.trans (hb3.mono B3.size)).cell (p := ⟨g2, o2 + 4, none⟩) hg2).trans f2
  have a0 : V.cell? ⟨ga, 0, none⟩ = some (.int .i64 11) := ((B3.trans (hb3.mono B3.size)).cell (p := ⟨ga, 0, none⟩) ltA).trans a0
  have a8 := ((B3.trans (hb3.mono B3.size)).cell (p := ⟨ga, 8, none⟩) ltA).trans a8
  have ltA : ga < V.heap.size := Nat.lt_of_lt_of_le ltA (B3.trans (hb3.mono B3.size)).size
  have hg1 : g1 < V.heap.size := Nat.lt_of_lt_of_le hg1 (B3.trans (hb3.mono B3.size)).size
  have hg2 : g2 < V.heap.size := Nat.lt_of_lt_of_le hg2 (B3.trans (hb3.mono B3.size)).size
  obtain ⟨gb, hgb⟩ : ∃ g, g = Z.heap.size := ⟨_, rfl⟩
  rw [← hgb] at K2 ⊢
  have ltB := K2.lt
  have b8 := K2.c 8 _ rfl
  clear B3 hb3 K2 hgb HB2
  go_wp2_with fail
  refine bodyPost_ret (v := .bool true) (by simp [results, Tryz.results4, go_sem]) rfl ⟨rfl, HB3.out⟩
open Go.RowKit Go.Maps Go.ChangeShapes Go.Deep Go.Shelf
set_option maxRecDepth 100000
theorem new_block (W : World) (cs : List Value) (T : TypeId) (g : Nat) (hg : g = W.heap.size) : ∃ W', W.alloc (.cells cs.toArray T) = W' ∧ KB W' g cs ∧ Below W.heap.size W W' ∧ g + 1 = W'.heap.size := by
  subst hg
  exact ⟨_, rfl, KB.new W cs T, ext_alloc (ext_refl _) _, (World.size_alloc _ _).symm⟩
theorem calls_world {f : Nat} {a : Array Value} {W W' : World} {Q : Ending → World → Prop} (h : Calls Tryz.prog f a W' Q) (e : W = W') : Calls Tryz.prog f a W Q := e ▸ h
open Go.RowKit
theorem inR_no (z : Int) : inR z = false ↔ ¬ (-9223372036854775808 ≤ z ∧ z ≤ 9223372036854775807) := by simp only [inR, decide_eq_false_iff_not]
theorem wrap_of (z : Int) (h : inR z = true) : wrap64 z = z := by
  rw [inR_iff] at h
  unfold wrap64; omega
theorem wrap_in (z : Int) : -9223372036854775808 ≤ wrap64 z ∧ wrap64 z ≤ 9223372036854775807 := by
  unfold wrap64; omega
theorem wrap_mul (z : Int) : ∃ k : Int, wrap64 z = z - 18446744073709551616 * k := by
  unfold wrap64
  exact ⟨(z + 9223372036854775808) / 18446744073709551616, by omega⟩
theorem add_fits (a b : Int) (ha : inR a = true) (hb : inR b = true) : (decide (a < wrap64 (a + b)) == decide (0 < b)) = inR (a + b) := by
  rw [inR_iff] at ha hb
  rw [Bool.eq_iff_iff, inR_iff, beq_iff_eq, Bool.eq_iff_iff, decide_eq_true_iff, decide_eq_true_iff]
  unfold wrap64; omega
theorem sub_fits (a b : Int) (ha : inR a = true) (hb : inR b = true) : (decide (wrap64 (a - b) < a) == decide (0 < b)) = inR (a - b) := by
  rw [inR_iff] at ha hb
  rw [Bool.eq_iff_iff, inR_iff, beq_iff_eq, Bool.eq_iff_iff, decide_eq_true_iff, decide_eq_true_iff]
  unfold wrap64; omega
theorem rest_of (n b : Int) : ∃ r : Int, n = n.tdiv b * b + r ∧ (0 ≤ n → 0 ≤ r) ∧ (n ≤ 0 → r ≤ 0) ∧ (0 < b → -b < r ∧ r < b) ∧ (b < 0 → b < r ∧ r < -b) := by
  refine ⟨n.tmod b, ?_, ?_, ?_, ?_, ?_⟩
  · have := Int.tdiv_mul_add_tmod n b; omega
  · exact fun h => Int.tmod_nonneg b h
  · intro h
    have h2 := Int.tmod_nonneg b (show 0 ≤ -n by omega)
    rw [Int.neg_tmod] at h2; omega
  · intro h
    exact ⟨by have := Int.lt_tmod_of_pos n h; omega, Int.tmod_lt_of_pos n h⟩
  · intro h
    have h1 := Int.lt_tmod_of_pos n (show 0 < -b by omega)
    have h2 := Int.tmod_lt_of_pos n (show 0 < -b by omega)
    rw [Int.tmod_neg] at h1 h2; omega
theorem quot_in (n b : Int) (hn : inR n = true) (hb0 : b ≠ 0) : inR (n.tdiv b) = true ∨ (b = -1 ∧ n = -9223372036854775808) := by
  rw [inR_iff] at hn ⊢
  have hq : (n.tdiv b).natAbs = n.natAbs / b.natAbs := Int.natAbs_tdiv n b
  by_cases h1 : b.natAbs = 1
  · rw [h1, Nat.div_one] at hq
    rcases Int.natAbs_eq b with h | h
    · have : b = 1 := by omega
      subst this
      rw [Int.tdiv_one] at *
      exact .inl hn
    · have : b = -1 := by omega
      subst this
      rw [Int.tdiv_neg, Int.tdiv_one] at *
      omega
  · have h2 : n.natAbs / b.natAbs ≤ n.natAbs / 2 := Nat.div_le_div_left (by omega) (by omega)
    left; omega
theorem sign_mul (a b : Int) (ha0 : a ≠ 0) (hb0 : b ≠ 0) : decide (a * b < 0) = (decide (a < 0) != decide (b < 0)) := by
  rcases Int.lt_or_gt_of_ne ha0 with h | h <;> rcases Int.lt_or_gt_of_ne hb0 with h' | h'
  · have := Int.mul_pos_of_neg_of_neg h h'
    simp [h, h']; omega
  · have := Int.mul_neg_of_neg_of_pos h h'
    simp [h, this]; omega
  · have := Int.mul_neg_of_pos_of_neg h h'
    simp [h', this]; omega
  · have := Int.mul_pos h h'
    have e1 : ¬ a < 0 := by omega
    have e2 : ¬ b < 0 := by omega
    simp [e1, e2]; omega
theorem mul_fits (a b : Int) (ha : inR a = true) (hb : inR b = true) (ha0 : a ≠ 0) (hb0 : b ≠ 0) :
    ((wrap64 ((wrap64 (a * b)).tdiv b) == a) && (decide (wrap64 (a * b) < 0) == (decide (a < 0) != decide (b < 0)))) = inR (a * b) := by
  cases hp : inR (a * b)
  · rw [Bool.and_eq_false_iff]
    by_cases hq : wrap64 ((wrap64 (a * b)).tdiv b) = a
    · right
      obtain ⟨k, hk⟩ := wrap_mul (a * b)
      have hin := wrap_in (a * b)
      rcases quot_in (wrap64 (a * b)) b (by rw [inR_iff]; exact hin) hb0 with h | ⟨h, h'⟩
      · exfalso
        rw [wrap_of _ h] at hq
        obtain ⟨r, h1, _, _, h2, h3⟩ := rest_of (wrap64 (a * b)) b
        rw [hq] at h1
        rw [inR_no] at hp
        rw [inR_iff] at hb
        generalize wrap64 (a * b) = n at *
        generalize a * b = p at *
        omega
      · subst h
        rw [h'] at hq ⊢
        have : a < 0 := by rw [← hq]; simp [wrap64]
        simp [this]
    · left
      simpa using hq
  · rw [wrap_of _ hp, Int.mul_tdiv_cancel _ hb0, wrap_of _ ha, sign_mul a b ha0 hb0]
    simp
theorem div_fits (a b : Int) (ha : inR a = true) (hb0 : b ≠ 0) : (a != -9223372036854775808 || b != -1) = inR (a.tdiv b) := by
  cases h : inR (a.tdiv b)
  · rcases quot_in a b ha hb0 with h' | ⟨rfl, rfl⟩
    · rw [h] at h'; cases h'
    · decide
  · rw [Bool.or_eq_true]
    by_cases hb : b = -1
    · subst hb
      left
      rw [Int.tdiv_neg, Int.tdiv_one, inR_iff] at h
      simp; omega
    · right; simpa using hb
open Go.RowKit
def comp (op a b : Int) : Int := if op = 4 then a + b else if op = 5 then a - b else if op = 6 then a * b else a.tdiv b
theorem comp4 (a b : Int) : comp 4 a b = a + b := rfl
theorem comp5 (a b : Int) : comp 5 a b = a - b := rfl
theorem comp6 (a b : Int) : comp 6 a b = a * b := rfl
theorem comp7 (a b : Int) : comp 7 a b = a.tdiv b := rfl
theorem ret2b {v : Value} {p q : Bool} (h : p = q) : Ending.returned (.tuple #[v, .bool p]) = .returned (.tuple #[v, .bool q]) := by rw [h]
set_option maxHeartbeats 400000 in
theorem multiply_any (a b : Int) (w : World) (ha : inR a = true) (hb : inR b = true) :
    Calls Tryz.prog 90 #[.int .i64 a, .int .i64 b] w fun e w' => e = .returned (.tuple #[.int .i64 (wrap64 (a * b)), .bool (inR (a * b))]) ∧ w = w' := by
  have Ha := Lib.hid ha
  have Hb := Lib.hid hb
  clear ha hb
  cases h1 : a == 0
  · cases h2 : b == 0
    · have ha0 : a ≠ 0 := by simpa using h1
      have hb0 : b ≠ 0 := by simpa using h2
      have Hm := Lib.hid (mul_fits a b Ha.out Hb.out ha0 hb0)
      go_enter Tryz.func90, Tryz.ntmps90
      go_wp2
      all_goals go_ret2
      all_goals refine ⟨ret2b ?_, rfl⟩
      all_goals rw [← Hm.out]
      all_goals first | (simp [*]; done) | (simp [*]; cases decide (a < 0) <;> cases decide (b < 0) <;> rfl)
    · have hb0 : b = 0 := by simpa using h2
      subst hb0
      go_enter Tryz.func90, Tryz.ntmps90
      go_wp2
      all_goals go_ret2
      all_goals exact ⟨by rw [Int.mul_zero]; show Ending.returned (.tuple #[.int .i64 0, .bool true]) = _; simp [wrap64, inR], rfl⟩
  · have ha0 : a = 0 := by simpa using h1
    subst ha0
    go_enter Tryz.func90, Tryz.ntmps90
    go_wp2
    all_goals go_ret2
    all_goals exact ⟨by rw [Int.zero_mul]; show Ending.returned (.tuple #[.int .i64 0, .bool true]) = _; simp [wrap64, inR], rfl⟩
set_option maxHeartbeats 400000 in
theorem compute_any (op a b : Int) (w : World) (hop : op = 4 ∨ op = 5 ∨ op = 6 ∨ op = 7 ∧ b ≠ 0) (ha : inR a = true) (hb : inR b = true) :
    Calls Tryz.prog 69 #[.int .i64 op, .int .i64 a, .int .i64 b] w fun e w' => e = .returned (.tuple #[.int .i64 (wrap64 (comp op a b)), .bool (inR (comp op a b))]) ∧ w = w' := by
  have Ha := Lib.hid ha
  have Hb := Lib.hid hb
  clear ha hb
  rcases hop with rfl | rfl | rfl | ⟨rfl, hb0⟩
  · rw [comp4]
    have Hm := Lib.hid (add_fits a b Ha.out Hb.out)
    go_enter Tryz.func69, Tryz.ntmps69
    go_wp2
    go_ret2
    exact ⟨ret2b Hm.out, rfl⟩
  · rw [comp5]
    have Hm := Lib.hid (sub_fits a b Ha.out Hb.out)
    go_enter Tryz.func69, Tryz.ntmps69
    go_wp2
    go_ret2
    exact ⟨ret2b Hm.out, rfl⟩
  · rw [comp6]
    go_enter Tryz.func69, Tryz.ntmps69
    go_wp2_with (first | (go_at_call 90; go_must (refine (multiply_any _ _ _ Ha.out Hb.out).mono ?_; rintro e w1 ⟨rfl, rfl⟩)))
    go_ret2
    exact ⟨rfl, rfl⟩
  · rw [comp7]
    have Hm := Lib.hid (div_fits a b Ha.out hb0)
    cases h1 : a == -9223372036854775808
    · have h2 : (a != -9223372036854775808) = true := by simp [bne, h1]
      go_enter Tryz.func69, Tryz.ntmps69
      go_wp2
      go_ret2
      refine ⟨?_, rfl⟩
      rw [← Hm.out, h2]
      simp
    · have ha0 : a = -9223372036854775808 := by simpa using h1
      subst ha0
      go_enter Tryz.func69, Tryz.ntmps69
      go_wp2
      go_ret2
      refine ⟨?_, rfl⟩
      rw [← Hm.out]
      simp
def arith (op : Int) (x y : Val) : Val × Int :=
  if x.nullOr 1 && y.nullOr 1 then
    if x.k == 0 || y.k == 0 then (nul, 0) else if op == 7 && y.n == 0 then (nul, 4) else if inR (comp op x.n y.n) then (num (comp op x.n y.n), 0) else (nul, 3)
  else (nul, 1)
set_option maxHeartbeats 400000 in
theorem arithmetic_no (op k n l m : Int) (s t : ByteArray) (w : World) (r : Val × Int) (h : Val.nullOr 1 ⟨k, n, s⟩ = false ∨ Val.nullOr 1 ⟨k, n, s⟩ = true ∧ Val.nullOr 1 ⟨l, m, t⟩ = false) (he : r = (nul, 1)) :
    Calls Tryz.prog 51 #[.int .i64 op, (Val.mk k n s).v, (Val.mk l m t).v] w fun e w' => e = .returned (.tuple #[r.1.v, .int .i64 r.2]) ∧ Below w.heap.size w w' := by
  subst he
  rcases h with h1 | ⟨h1, h2⟩
  · have H1 := Lib.hid h1
    clear h1
    go_enter Tryz.func51, Tryz.ntmps51
    go_wp2_with (first | (go_at_call 55; go_must (refine (nullOr_any _ ⟨_, _, _⟩ _).mono ?_; rintro e w1 ⟨rfl, hb⟩; obtain ⟨hc, hz, hf⟩ := kept hb; have hz2 : w.heap.size + 1 + 1 < w1.heap.size := hz _ (by first | (simp; done) | (simp; omega) | assumption); have hz1 : w.heap.size + 1 < w1.heap.size := hz _ (by first | (simp; done) | (simp; omega) | assumption); have hz0 : w.heap.size < w1.heap.size := hz _ (by first | (simp; done) | (simp; omega) | assumption); rw [H1.out])))
    (refine bodyPost_ret (v := .tuple #[nul.v, .int .i64 1]) (by simp [results, Tryz.results51, go_sem, *]) rfl ⟨by (rfl), ?_⟩; (repeat (first | exact ext_refl _ | assumption | (refine ext_alloc ?_ _) | (refine ext_drewN ?_ _) | refine ext_drew ?_ | (refine ext_set (by first | (simp; done) | (simp; omega)) _ ?_) | (refine ext_trans ?_ (by assumption)))))
  · have H1 := Lib.hid h1
    have H2 := Lib.hid h2
    clear h1 h2
    go_enter Tryz.func51, Tryz.ntmps51
    go_wp2_with (first | (go_at_call 55; go_must (refine (nullOr_any _ ⟨_, _, _⟩ _).mono ?_; rintro e w1 ⟨rfl, hb⟩; obtain ⟨hc, hz, hf⟩ := kept hb; have hz2 : w.heap.size + 1 + 1 < w1.heap.size := hz _ (by first | (simp; done) | (simp; omega) | assumption); have hz1 : w.heap.size + 1 < w1.heap.size := hz _ (by first | (simp; done) | (simp; omega) | assumption); have hz0 : w.heap.size < w1.heap.size := hz _ (by first | (simp; done) | (simp; omega) | assumption); first | rw [H1.out] | rw [H2.out])))
    (refine bodyPost_ret (v := .tuple #[nul.v, .int .i64 1]) (by simp [results, Tryz.results51, go_sem, *]) rfl ⟨by (rfl), ?_⟩; (repeat (first | exact ext_refl _ | assumption | (refine ext_alloc ?_ _) | (refine ext_drewN ?_ _) | refine ext_drew ?_ | (refine ext_set (by first | (simp; done) | (simp; omega)) _ ?_) | (refine ext_trans ?_ (by assumption)))))
set_option maxHeartbeats 400000 in
theorem arithmetic_null (op k n l m : Int) (s t : ByteArray) (w : World) (r : Val × Int) (h1 : Val.nullOr 1 ⟨k, n, s⟩ = true) (h2 : Val.nullOr 1 ⟨l, m, t⟩ = true) (h : (k == 0) = true ∨ (k == 0) = false ∧ (l == 0) = true) (he : r = (nul, 0)) :
    Calls Tryz.prog 51 #[.int .i64 op, (Val.mk k n s).v, (Val.mk l m t).v] w fun e w' => e = .returned (.tuple #[r.1.v, .int .i64 r.2]) ∧ Below w.heap.size w w' := by
  subst he
  have H1 := Lib.hid h1
  have H2 := Lib.hid h2
  clear h1 h2
  rcases h with h3 | ⟨h3, h4⟩
  all_goals go_enter Tryz.func51, Tryz.ntmps51
  all_goals go_wp2_with (first | (go_at_call 55; go_must (refine (nullOr_any _ ⟨_, _, _⟩ _).mono ?_; rintro e w1 ⟨rfl, hb⟩; obtain ⟨hc, hz, hf⟩ := kept hb; have hz2 : w.heap.size + 1 + 1 < w1.heap.size := hz _ (by first | (simp; done) | (simp; omega) | assumption); have hz1 : w.heap.size + 1 < w1.heap.size := hz _ (by first | (simp; done) | (simp; omega) | assumption); have hz0 : w.heap.size < w1.heap.size := hz _ (by first | (simp; done) | (simp; omega) | assumption); first | rw [H1.out] | rw [H2.out])) | (go_at_call 56; go_must (refine (isNull_any ⟨_, _, _⟩ _).mono ?_; rintro e w1 ⟨rfl, hb⟩; obtain ⟨hc, hz, hf⟩ := kept hb; have hz2 : w.heap.size + 1 + 1 < w1.heap.size := hz _ (by first | (simp; done) | (simp; omega) | assumption); have hz1 : w.heap.size + 1 < w1.heap.size := hz _ (by first | (simp; done) | (simp; omega) | assumption); have hz0 : w.heap.size < w1.heap.size := hz _ (by first | (simp; done) | (simp; omega) | assumption))))
  all_goals (refine bodyPost_ret (v := .tuple #[nul.v, .int .i64 0]) (by simp [results, Tryz.results51, go_sem, *]) rfl ⟨by (rfl), ?_⟩; (repeat (first | exact ext_refl _ | assumption | (refine ext_alloc ?_ _) | (refine ext_drewN ?_ _) | refine ext_drew ?_ | (refine ext_set (by first | (simp; done) | (simp; omega)) _ ?_) | (refine ext_trans ?_ (by assumption)))))
set_option maxHeartbeats 400000 in
theorem arithmetic_zero (k n l : Int) (s t : ByteArray) (w : World) (r : Val × Int) (h1 : Val.nullOr 1 ⟨k, n, s⟩ = true) (h2 : Val.nullOr 1 ⟨l, 0, t⟩ = true) (h3 : (k == 0) = false) (h4 : (l == 0) = false) (he : r = (nul, 4)) :
    Calls Tryz.prog 51 #[.int .i64 7, (Val.mk k n s).v, (Val.mk l 0 t).v] w fun e w' => e = .returned (.tuple #[r.1.v, .int .i64 r.2]) ∧ Below w.heap.size w w' := by
  subst he
  have H1 := Lib.hid h1
  have H2 := Lib.hid h2
  clear h1 h2
  go_enter Tryz.func51, Tryz.ntmps51
  go_wp2_with (first | (go_at_call 55; go_must (refine (nullOr_any _ ⟨_, _, _⟩ _).mono ?_; rintro e w1 ⟨rfl, hb⟩; obtain ⟨hc, hz, hf⟩ := kept hb; have hz2 : w.heap.size + 1 + 1 < w1.heap.size := hz _ (by first | (simp; done) | (simp; omega) | assumption); have hz1 : w.heap.size + 1 < w1.heap.size := hz _ (by first | (simp; done) | (simp; omega) | assumption); have hz0 : w.heap.size < w1.heap.size := hz _ (by first | (simp; done) | (simp; omega) | assumption); first | rw [H1.out] | rw [H2.out])) | (go_at_call 56; go_must (refine (isNull_any ⟨_, _, _⟩ _).mono ?_; rintro e w1 ⟨rfl, hb⟩; obtain ⟨hc, hz, hf⟩ := kept hb; have hz2 : w.heap.size + 1 + 1 < w1.heap.size := hz _ (by first | (simp; done) | (simp; omega) | assumption); have hz1 : w.heap.size + 1 < w1.heap.size := hz _ (by first | (simp; done) | (simp; omega) | assumption); have hz0 : w.heap.size < w1.heap.size := hz _ (by first | (simp; done) | (simp; omega) | assumption))))
  (refine bodyPost_ret (v := .tuple #[nul.v, .int .i64 4]) (by simp [results, Tryz.results51, go_sem, *]) rfl ⟨by (rfl), ?_⟩; (repeat (first | exact ext_refl _ | assumption | (refine ext_alloc ?_ _) | (refine ext_drewN ?_ _) | refine ext_drew ?_ | (refine ext_set (by first | (simp; done) | (simp; omega)) _ ?_) | (refine ext_trans ?_ (by assumption)))))
set_option maxHeartbeats 400000 in
theorem arithmetic_num (op k n l m : Int) (s t : ByteArray) (w : World) (r : Val × Int) (h1 : Val.nullOr 1 ⟨k, n, s⟩ = true) (h2 : Val.nullOr 1 ⟨l, m, t⟩ = true) (h3 : (k == 0) = false) (h4 : (l == 0) = false)
    (hx : inR n = true) (hy : inR m = true) (hop : op = 4 ∨ op = 5 ∨ op = 6 ∨ op = 7 ∧ m ≠ 0) (h : (op == 7) = false ∨ (op == 7) = true ∧ (m == 0) = false) (he : r = if inR (comp op n m) then (num (comp op n m), 0) else (nul, 3)) :
    Calls Tryz.prog 51 #[.int .i64 op, (Val.mk k n s).v, (Val.mk l m t).v] w fun e w' => e = .returned (.tuple #[r.1.v, .int .i64 r.2]) ∧ Below w.heap.size w w' := by
  have H1 := Lib.hid h1
  have H2 := Lib.hid h2
  have Hx := Lib.hid hx
  have Hy := Lib.hid hy
  have Hop := Lib.hid hop
  clear h1 h2 hx hy hop
  cases hi : inR (comp op n m)
  · rw [hi, if_neg Bool.false_ne_true] at he
    subst he
    have Hi := Lib.hid hi
    clear hi
    rcases h with h5 | ⟨h5, h6⟩
    all_goals go_enter Tryz.func51, Tryz.ntmps51
    all_goals go_wp2_with (first | (go_at_call 55; go_must (refine (nullOr_any _ ⟨_, _, _⟩ _).mono ?_; rintro e w1 ⟨rfl, hb⟩; obtain ⟨hc, hz, hf⟩ := kept hb; have hz2 : w.heap.size + 1 + 1 < w1.heap.size := hz _ (by first | (simp; done) | (simp; omega) | assumption); have hz1 : w.heap.size + 1 < w1.heap.size := hz _ (by first | (simp; done) | (simp; omega) | assumption); have hz0 : w.heap.size < w1.heap.size := hz _ (by first | (simp; done) | (simp; omega) | assumption); first | rw [H1.out] | rw [H2.out])) | (go_at_call 56; go_must (refine (isNull_any ⟨_, _, _⟩ _).mono ?_; rintro e w1 ⟨rfl, hb⟩; obtain ⟨hc, hz, hf⟩ := kept hb; have hz2 : w.heap.size + 1 + 1 < w1.heap.size := hz _ (by first | (simp; done) | (simp; omega) | assumption); have hz1 : w.heap.size + 1 < w1.heap.size := hz _ (by first | (simp; done) | (simp; omega) | assumption); have hz0 : w.heap.size < w1.heap.size := hz _ (by first | (simp; done) | (simp; omega) | assumption))) | (go_at_call 69; go_must (refine (compute_any _ _ _ _ Hop.out Hx.out Hy.out).mono ?_; rintro e w1 ⟨rfl, rfl⟩; rw [Hi.out])) | (go_at_call 52; go_must (refine (number_any _ _).mono ?_; rintro e w1 ⟨rfl, hb⟩; obtain ⟨hc, hz, hf⟩ := kept hb; have hz2 : w.heap.size + 1 + 1 < w1.heap.size := hz _ (by first | (simp; done) | (simp; omega) | assumption); have hz1 : w.heap.size + 1 < w1.heap.size := hz _ (by first | (simp; done) | (simp; omega) | assumption); have hz0 : w.heap.size < w1.heap.size := hz _ (by first | (simp; done) | (simp; omega) | assumption))))
    all_goals (refine bodyPost_ret (v := .tuple #[nul.v, .int .i64 3]) (by simp [results, Tryz.results51, go_sem, *]) rfl ⟨by (rfl), ?_⟩; (repeat (first | exact ext_refl _ | assumption | (refine ext_alloc ?_ _) | (refine ext_drewN ?_ _) | refine ext_drew ?_ | (refine ext_set (by first | (simp; done) | (simp; omega)) _ ?_) | (refine ext_trans ?_ (by assumption)))))
  · rw [hi, if_pos rfl] at he
    subst he
    have Hi := Lib.hid hi
    have Hw := Lib.hid (wrap_of _ hi)
    clear hi
    rcases h with h5 | ⟨h5, h6⟩
    all_goals go_enter Tryz.func51, Tryz.ntmps51
    all_goals go_wp2_with (first | (go_at_call 55; go_must (refine (nullOr_any _ ⟨_, _, _⟩ _).mono ?_; rintro e w1 ⟨rfl, hb⟩; obtain ⟨hc, hz, hf⟩ := kept hb; have hz2 : w.heap.size + 1 + 1 < w1.heap.size := hz _ (by first | (simp; done) | (simp; omega) | assumption); have hz1 : w.heap.size + 1 < w1.heap.size := hz _ (by first | (simp; done) | (simp; omega) | assumption); have hz0 : w.heap.size < w1.heap.size := hz _ (by first | (simp; done) | (simp; omega) | assumption); first | rw [H1.out] | rw [H2.out])) | (go_at_call 56; go_must (refine (isNull_any ⟨_, _, _⟩ _).mono ?_; rintro e w1 ⟨rfl, hb⟩; obtain ⟨hc, hz, hf⟩ := kept hb; have hz2 : w.heap.size + 1 + 1 < w1.heap.size := hz _ (by first | (simp; done) | (simp; omega) | assumption); have hz1 : w.heap.size + 1 < w1.heap.size := hz _ (by first | (simp; done) | (simp; omega) | assumption); have hz0 : w.heap.size < w1.heap.size := hz _ (by first | (simp; done) | (simp; omega) | assumption))) | (go_at_call 69; go_must (refine (compute_any _ _ _ _ Hop.out Hx.out Hy.out).mono ?_; rintro e w1 ⟨rfl, rfl⟩; rw [Hi.out, Hw.out])) | (go_at_call 52; go_must (refine (number_any _ _).mono ?_; rintro e w1 ⟨rfl, hb⟩; obtain ⟨hc, hz, hf⟩ := kept hb; have hz2 : w.heap.size + 1 + 1 < w1.heap.size := hz _ (by first | (simp; done) | (simp; omega) | assumption); have hz1 : w.heap.size + 1 < w1.heap.size := hz _ (by first | (simp; done) | (simp; omega) | assumption); have hz0 : w.heap.size < w1.heap.size := hz _ (by first | (simp; done) | (simp; omega) | assumption))))
    all_goals (refine bodyPost_ret (v := .tuple #[(num (comp op n m)).v, .int .i64 0]) (by simp [results, Tryz.results51, go_sem, *]) rfl ⟨by (rfl), ?_⟩; (repeat (first | exact ext_refl _ | assumption | (refine ext_alloc ?_ _) | (refine ext_drewN ?_ _) | refine ext_drew ?_ | (refine ext_set (by first | (simp; done) | (simp; omega)) _ ?_) | (refine ext_trans ?_ (by assumption)))))
theorem arithmetic_any (op : Int) (x y : Val) (w : World) (hop : op = 4 ∨ op = 5 ∨ op = 6 ∨ op = 7) (hx : inR x.n = true) (hy : inR y.n = true) :
    Calls Tryz.prog 51 #[.int .i64 op, x.v, y.v] w fun e w' => e = .returned (.tuple #[(arith op x y).1.v, .int .i64 (arith op x y).2]) ∧ Below w.heap.size w w' := by
  obtain ⟨k, n, s⟩ := x
  obtain ⟨l, m, t⟩ := y
  cases h1 : Val.nullOr 1 ⟨k, n, s⟩
  · exact arithmetic_no op k n l m s t w _ (.inl h1) (by simp [arith, h1])
  cases h2 : Val.nullOr 1 ⟨l, m, t⟩
  · exact arithmetic_no op k n l m s t w _ (.inr ⟨h1, h2⟩) (by simp [arith, h2])
  cases h3 : k == 0
  rotate_left
  · exact arithmetic_null op k n l m s t w _ h1 h2 (.inl h3) (by simp [arith, h1, h2, h3])
  cases h4 : l == 0
  rotate_left
  · exact arithmetic_null op k n l m s t w _ h1 h2 (.inr ⟨h3, h4⟩) (by simp [arith, h1, h2, h4])
  by_cases h5 : op = 7
  · by_cases h6 : m = 0
    · subst h5 h6
      exact arithmetic_zero k n l s t w _ h1 h2 h3 h4 (by simp [arith, h1, h2, h3, h4])
    · exact arithmetic_num op k n l m s t w _ h1 h2 h3 h4 hx hy (by omega) (.inr ⟨by simpa using h5, by simpa using h6⟩) (by simp [arith, h1, h2, h3, h4, h5, h6])
  · exact arithmetic_num op k n l m s t w _ h1 h2 h3 h4 hx hy (by omega) (.inl (by simpa using h5)) (by simp [arith, h1, h2, h3, h4, h5])
end Go.Proofs.YtklgoajgchfmeaaGreatDoor
