/- The chapter's examples are so. -/
import Derived.Test.YtflbeccfdbjbhaaIxU
import Derived.Test.YtflbeccfdbjbhaaIxN
namespace Go.Proofs.Ytflbeccfdbjbhaa
open Go.RowKit
set_option maxRecDepth 100000

/-- A number. -/
abbrev nu (k : Int) : Val := ⟨1, k, ⟨#[]⟩⟩
theorem n_any (k : Int) (w : World) : Calls Try.prog 14 #[.int .i64 k] w fun e w' => e = .returned (.agg #[.int .i64 1, .int .i64 k, .string ⟨#[]⟩]) ∧ Below w.heap.size w w' := by
  go_enter Try.func14, Try.ntmps14
  go_wp2
  (refine bodyPost_ret (v := .agg #[.int .i64 1, .int .i64 k, .string ⟨#[]⟩]) (by simp [results, Try.results14, go_sem]) rfl ⟨rfl, ?_⟩)
  (repeat (first | exact ext_refl _ | assumption | (refine ext_alloc ?_ _) | (refine ext_drewN ?_ _) | refine ext_drew ?_ | (refine ext_set (by first | (simp; done) | (simp; omega)) _ ?_) | (refine ext_trans ?_ (by assumption))))

theorem alloc_old {w : World} {o : Obj} {k : Nat} {x : Obj} (h : w.heap[k]? = some x) : (w.alloc o).heap[k]? = some x := by
  have hk : k < w.heap.size := (Array.getElem?_eq_some_iff.1 h).1
  rw [Below.heap_alloc _ _ _ hk]
  exact h
theorem alloc_new {w : World} {o : Obj} {k : Nat} (h : k = w.heap.size) : (w.alloc o).heap[k]? = some o := by
  rw [h]
  exact heap_alloc_new w o
theorem one_arr {α : Type} {lo hi g sz : Nat} {x : α} {P : Nat → Nat → α → Prop} (h1 : lo ≤ g) (h2 : g < hi) (h : P g 0 x) : ArrA lo hi (some ⟨g, 0, none⟩) sz [x] P := fun i _ => ⟨g, 0, rfl, h1, h2, fun j y hj => by
  have : j < 1 := (List.getElem?_eq_some_iff.1 hj).1
  obtain rfl : j = 0 := by omega
  obtain rfl : x = y := by simpa using hj
  rw [Nat.zero_mul]
  exact h⟩

abbrev exRows : List (List Val) := [[nu 3], [nul], [nu 1], [nu 3]]
abbrev exL : List Val := [nu 3, nul, nu 1, nu 3]
theorem exL_is : colL exRows 0 = exL := rfl
theorem cmpSelf (x : Val) : x.cmp x = 0 := cmp_self x
theorem cmp_num {a b : Int} (h : a ≠ b) : (nu a).cmp (nu b) = ordI a b := by
  unfold Val.cmp or3
  have : ordI 1 1 = 0 := rfl
  rw [this]
  simp only [bne_self_eq_false, Bool.false_eq_true, if_false]
  rw [if_pos]
  unfold ordI
  by_cases h1 : a < b
  · rw [if_pos h1]; rfl
  · rw [if_neg h1, if_pos (by omega)]; rfl
theorem cmp_nul_num (a : Int) : nul.cmp (nu a) = -1 := rfl
theorem cmp_num_nul (a : Int) : (nu a).cmp nul = 1 := rfl
theorem ex31 : (nu 3).cmp (nu 1) = 1 := rfl
theorem ex13 : (nu 1).cmp (nu 3) = -1 := rfl
theorem ex32 : (nu 3).cmp (nu 2) = 1 := rfl
theorem ex12 : (nu 1).cmp (nu 2) = -1 := rfl

theorem exEq : eqP exL (nu 3) = [0, 3] := by
  unfold eqP
  simp [valAt, List.range, List.range.loop, cmpSelf, cmp_nul_num, ex13]
theorem exNone : eqP exL nul = [] := rfl
theorem exAll : allP exL = [1, 2, 0, 3] := by
  refine (allP_only (l := exL) (A := [1, 2, 0, 3]) (by decide) ?_).symm
  simp [IxLt, valAt, cmpSelf, cmp_nul_num, ex13]
theorem exRange : rangeP exL (some (nu 2)) none = [0, 3] := by
  rw [rangeP_eq, exAll]
  simp [okLo, okHi, valAt, cmp_nul_num, ex12, ex32]
theorem exDist : distP exL = 2 := by
  have f0 : (valAt exL 0).k ≠ 0 ∧ ∀ j, j < 0 → (valAt exL j).cmp (valAt exL 0) ≠ 0 := ⟨by simp [valAt], fun j hj => by omega⟩
  have f1 : ¬ ((valAt exL 1).k ≠ 0 ∧ ∀ j, j < 1 → (valAt exL j).cmp (valAt exL 1) ≠ 0) := fun h => h.1 rfl
  have f2 : (valAt exL 2).k ≠ 0 ∧ ∀ j, j < 2 → (valAt exL j).cmp (valAt exL 2) ≠ 0 := ⟨by simp [valAt], fun j hj => by
    match j, hj with
    | 0, _ => exact fun h => absurd (ex31.symm.trans h) (by decide)
    | 1, _ => exact fun h => absurd ((cmp_nul_num 1).symm.trans h) (by decide)⟩
  have f3 : ¬ ((valAt exL 3).k ≠ 0 ∧ ∀ j, j < 3 → (valAt exL j).cmp (valAt exL 3) ≠ 0) := fun h => h.2 0 (by omega) (cmp_self (nu 3))
  unfold distP
  rw [show List.range exL.length = [0, 1, 2, 3] from rfl]
  simp only [List.filter_cons, List.filter_nil, decide_eq_true_eq]
  rw [if_pos f0, if_neg f1, if_pos f2, if_neg f3]
  rfl

theorem rows4 {X : World} {lo hi b : Nat} {b0 b1 b2 b3 : Nat} {v0 v1 v2 v3 : Val} (hb : X.heap[b]? = some (.cells #[.slice (some ⟨b0, 0, none⟩) 1 1, .slice (some ⟨b1, 0, none⟩) 1 1, .slice (some ⟨b2, 0, none⟩) 1 1, .slice (some ⟨b3, 0, none⟩) 1 1] 22 (0, 0)))
    (h0 : X.heap[b0]? = some (.cells #[.int .i64 v0.k, .int .i64 v0.n, .string v0.s] 24 (0, 0))) (h1 : X.heap[b1]? = some (.cells #[.int .i64 v1.k, .int .i64 v1.n, .string v1.s] 24 (0, 0))) (h2 : X.heap[b2]? = some (.cells #[.int .i64 v2.k, .int .i64 v2.n, .string v2.s] 24 (0, 0))) (h3 : X.heap[b3]? = some (.cells #[.int .i64 v3.k, .int .i64 v3.n, .string v3.s] 24 (0, 0)))
    (hl : lo ≤ b ∧ lo ≤ b0 ∧ lo ≤ b1 ∧ lo ≤ b2 ∧ lo ≤ b3) (hh : b < hi ∧ b0 < hi ∧ b1 < hi ∧ b2 < hi ∧ b3 < hi) : RowsA X lo hi (some ⟨b, 0, none⟩) [[v0], [v1], [v2], [v3]] := fun i _ => ⟨b, 0, rfl, hl.1, hh.1, fun j r hr => by
  have one : ∀ (g : Nat) (v : Val), X.heap[g]? = some (.cells #[.int .i64 v.k, .int .i64 v.n, .string v.s] 24 (0, 0)) → lo ≤ g → g < hi → ValsA X lo hi (some ⟨g, 0, none⟩) [v] := fun g v h h1 h2 => one_arr h1 h2 ⟨by rw [Lib.cell_of_heap h]; rfl, by rw [Lib.cell_of_heap h]; rfl, by rw [Lib.cell_of_heap h]; rfl⟩
  have hj : j < 4 := (List.getElem?_eq_some_iff.1 hr).1
  match j, hj with
  | 0, _ => obtain rfl : [v0] = r := by simpa using hr
            exact ⟨_, 1, by rw [Lib.cell_of_heap hb]; rfl, Nat.le_refl _, by omega, one _ _ h0 hl.2.1 hh.2.1⟩
  | 1, _ => obtain rfl : [v1] = r := by simpa using hr
            exact ⟨_, 1, by rw [Lib.cell_of_heap hb]; rfl, Nat.le_refl _, by omega, one _ _ h1 hl.2.2.1 hh.2.2.1⟩
  | 2, _ => obtain rfl : [v2] = r := by simpa using hr
            exact ⟨_, 1, by rw [Lib.cell_of_heap hb]; rfl, Nat.le_refl _, by omega, one _ _ h2 hl.2.2.2.1 hh.2.2.2.1⟩
  | 3, _ => obtain rfl : [v3] = r := by simpa using hr
            exact ⟨_, 1, by rw [Lib.cell_of_heap hb]; rfl, Nat.le_refl _, by omega, one _ _ h3 hl.2.2.2.2 hh.2.2.2.2⟩⟩

theorem lit_ints {X : World} {b : Nat} (A : List Int) (cs : Array Value) (hcs : cs.toList = A.map (Value.int .i64)) (h : X.heap[b]? = some (.cells cs 3 (0, 0))) : IntsA X 0 (b + 1) (some ⟨b, 0, none⟩) A := fun i _ => ⟨b, 0, rfl, Nat.zero_le _, Nat.lt_succ_self _, fun j x hx => by
  unfold intC
  rw [Nat.mul_one, Nat.zero_add, Lib.cell_of_heap h, ← Array.getElem?_toList, hcs, List.getElem?_map, hx]
  rfl⟩

theorem fit_nu (k : Int) (h : inR k = true) : FitV (nu k) := ⟨by show inR 1 = true; decide, h, by show (0 : Nat) ≤ _; omega⟩
theorem fit_nul : FitV nul := ⟨by decide, by decide, by show (0 : Nat) ≤ _; omega⟩

set_option maxHeartbeats 4000000 in
theorem ex6_any (w : World) : Calls Try.prog 5 #[] w fun e w' => e = .returned (.bool true) ∧ Below w.heap.size w w' := by
  go_enter Try.func5, Try.ntmps5
  go_wp2_with fail
  refine (n_any 3 _).mono ?_
  rintro e w1 ⟨rfl, hb1⟩
  have hs1 := hb1.size
  go_wp2_with fail
  refine (n_any 1 _).mono ?_
  rintro e w2 ⟨rfl, hb2⟩
  have hs2 := hb2.size
  simp only [World.size_alloc] at hs2
  obtain ⟨B0, hB0⟩ : ∃ B, B = w1.heap.size := ⟨_, rfl⟩
  have k0 : w2.heap[B0]? = some (.cells #[.int .i64 1, .int .i64 3, .string ⟨#[]⟩] 24 (0, 0)) := by rw [hb2.block B0 (by rw [hB0]; simp)]; exact alloc_old (alloc_new hB0)
  have k1 : w2.heap[B0 + 1]? = some (.cells #[.int .i64 0, .int .i64 0, .string ⟨#[]⟩] 24 (0, 0)) := by rw [hb2.block (B0 + 1) (by rw [hB0]; simp)]; exact alloc_new (by rw [hB0]; simp)
  have HB2 := Lib.hid (show Below w.heap.size w w2 from hb1.trans ((show Below w.heap.size w1 w2 from ((Below.refl _ _).alloc hs1 _).trans ((((Below.refl _ _).alloc (by simp; omega) _)).trans (hb2.mono (by simp; omega))))))
  have hz2 : B0 + 1 < w2.heap.size := by omega
  rw [← hB0]
  have HH0 := Lib.hid hB0
  have hw0 : w.heap.size ≤ B0 := by omega
  clear hb1 hb2 hB0 hs1 hs2
  go_wp2_with fail
  refine (n_any 3 _).mono ?_
  rintro e w3 ⟨rfl, hb3⟩
  have hs3 := hb3.size
  simp only [World.size_alloc] at hs3
  obtain ⟨B2, hB2⟩ : ∃ B, B = w2.heap.size := ⟨_, rfl⟩
  obtain ⟨B3, hB3⟩ : ∃ B, B = w3.heap.size := ⟨_, rfl⟩
  have m0 := (hb3.block B0 (by simp; omega)).trans (alloc_old (o := .cells #[.int .i64 1, .int .i64 1, .string ⟨#[]⟩] 24) k0)
  have m1 := (hb3.block (B0 + 1) (by simp; omega)).trans (alloc_old (o := .cells #[.int .i64 1, .int .i64 1, .string ⟨#[]⟩] 24) k1)
  have m2 : w3.heap[B2]? = some (.cells #[.int .i64 1, .int .i64 1, .string ⟨#[]⟩] 24 (0, 0)) := by rw [hb3.block B2 (by rw [hB2]; simp)]; exact alloc_new hB2
  obtain ⟨X, hX⟩ : ∃ X, X = (w3.alloc (.cells #[.int .i64 1, .int .i64 3, .string ⟨#[]⟩] 24)).alloc (.cells #[.slice (some ⟨B0, 0, none⟩) 1 1, .slice (some ⟨B0 + 1, 0, none⟩) 1 1, .slice (some ⟨B2, 0, none⟩) 1 1, .slice (some ⟨B3, 0, none⟩) 1 1] 22) := ⟨_, rfl⟩
  have hXs : B3 + 1 < X.heap.size := by rw [hX, hB3]; simp
  have h23 : B2 < B3 ∧ B0 + 1 < B2 := by omega
  have x0 : X.heap[B0]? = some (.cells #[.int .i64 1, .int .i64 3, .string ⟨#[]⟩] 24 (0, 0)) := by rw [hX]; exact alloc_old (alloc_old m0)
  have x1 : X.heap[B0 + 1]? = some (.cells #[.int .i64 0, .int .i64 0, .string ⟨#[]⟩] 24 (0, 0)) := by rw [hX]; exact alloc_old (alloc_old m1)
  have x2 : X.heap[B2]? = some (.cells #[.int .i64 1, .int .i64 1, .string ⟨#[]⟩] 24 (0, 0)) := by rw [hX]; exact alloc_old (alloc_old m2)
  have x3 : X.heap[B3]? = some (.cells #[.int .i64 1, .int .i64 3, .string ⟨#[]⟩] 24 (0, 0)) := by rw [hX]; exact alloc_old (alloc_new hB3)
  have x4 : X.heap[B3 + 1]? = some (.cells #[.slice (some ⟨B0, 0, none⟩) 1 1, .slice (some ⟨B0 + 1, 0, none⟩) 1 1, .slice (some ⟨B2, 0, none⟩) 1 1, .slice (some ⟨B3, 0, none⟩) 1 1] 22 (0, 0)) := by rw [hX]; exact alloc_new (by rw [hB3]; simp)
  have RR := rows4 (X := X) (lo := 0) (hi := X.heap.size) (v0 := nu 3) (v1 := nul) (v2 := nu 1) (v3 := nu 3) x4 x0 x1 x2 x3 (by omega) (by omega)
  have BX : Below w.heap.size w X := by
    rw [hX]
    exact HB2.out.trans (((Below.refl _ _).alloc (by omega) _).trans (((hb3.mono (by simp; omega)).trans ((Below.refl _ _).alloc (by omega) _)).trans ((Below.refl _ _).alloc (by simp; omega) _)))
  have BU := Lib.hid (build_any exRows 0 (some ⟨B3 + 1, 0, none⟩) 4 0 X.heap.size X (by decide) (by omega) (by decide) RR (Nat.le_refl _) (by decide) (by omega) (fun r hr v hv => by
    simp only [exRows, List.mem_cons, List.not_mem_nil, or_false] at hr
    rcases hr with rfl | rfl | rfl | rfl
    all_goals (simp only [List.mem_cons, List.not_mem_nil, or_false] at hv; subst hv)
    all_goals first | exact fit_nul | exact fit_nu _ (by decide)))
  have HX := Lib.hid hX
  have HBX := Lib.hid BX
  rw [← hB2]
  clear k0 k1 m0 m1 m2 x0 x1 x2 x3 x4 RR BX hX hb3 hs3 HB2 HH0
  have HB3 := Lib.hid hB3
  clear hB2 hB3
  go_wp2_with fail
  rw [← HB3.out, ← HX.out]
  refine (BU.out).mono ?_
  rintro e w4 ⟨⟨p, rfl, hI⟩, hb4⟩
  have hI : IxP w4 w4.heap.size p exL := hI
  have BE := Lib.hid (HBX.out.trans (hb4.mono HBX.out.size))
  have I4 := Lib.hid hI
  have hs4 := BE.out.size
  clear hI hb4 BU HBX HX HB3 hXs h23 hz2 hw0
  go_wp2_with fail
  refine (n_any 3 _).mono ?_
  rintro e w5 ⟨rfl, hb5⟩
  have I5 := I4.out.later hb5
  have EQ := eq_any w5 _ p exL (nu 3) I5
  rw [exEq] at EQ
  have EQ := Lib.hid EQ
  have I5 := Lib.hid I5
  have B5 := Lib.hid (BE.out.trans (hb5.mono hs4))
  clear hb5 BE I4 hs4
  go_wp2_with fail
  refine (EQ.out).mono ?_
  rintro e w6 ⟨⟨q6, c6, rfl, o6⟩, hb6⟩
  have I6 := Lib.hid (I5.out.later hb6)
  have B6 := Lib.hid (B5.out.trans (hb6.mono B5.out.size))
  have NS := Lib.hid (numbers_same [0, 3] q6 (some ⟨w6.heap.size, 0, none⟩) c6 2 w5.heap.size w6.heap.size 0 (w6.heap.size + 1) (w6.alloc (.cells #[.int .i64 0, .int .i64 3] 3)) o6.le o6.le2 (by decide) (o6.arr.same (Same.of ((Below.refl _ _).alloc (Nat.le_refl _) _) (Nat.le_refl _))) (lit_ints [0, 3] _ rfl (heap_alloc_new _ _)))
  clear o6 hb6 EQ I5 B5
  go_wp2_with fail
  refine (NS.out).mono ?_
  rintro e w7 ⟨rfl, hb7⟩
  have hb7' : Below w6.heap.size w6 w7 := ((Below.refl _ _).alloc (Nat.le_refl _) _).trans (hb7.mono (by simp))
  have I7 := I6.out.later hb7'
  have AL := all_any w7 _ p exL I7
  rw [exAll] at AL
  have AL := Lib.hid AL
  have I7 := Lib.hid I7
  have B7 := Lib.hid (B6.out.trans (hb7'.mono B6.out.size))
  clear hb7 hb7' NS I6 B6
  go_wp2_with fail
  refine (AL.out).mono ?_
  rintro e w8 ⟨⟨q8, c8, rfl, o8⟩, hb8⟩
  have I8 := Lib.hid (I7.out.later hb8)
  have B8 := Lib.hid (B7.out.trans (hb8.mono B7.out.size))
  have NS := Lib.hid (numbers_same [1, 2, 0, 3] q8 (some ⟨w8.heap.size, 0, none⟩) c8 4 w7.heap.size w8.heap.size 0 (w8.heap.size + 1) (w8.alloc (.cells #[.int .i64 1, .int .i64 2, .int .i64 0, .int .i64 3] 3)) o8.le o8.le2 (by decide) (o8.arr.same (Same.of ((Below.refl _ _).alloc (Nat.le_refl _) _) (Nat.le_refl _))) (lit_ints [1, 2, 0, 3] _ rfl (heap_alloc_new _ _)))
  clear o8 hb8 AL I7 B7
  go_wp2_with fail
  refine (NS.out).mono ?_
  rintro e w9 ⟨rfl, hb9⟩
  have hb9' : Below w8.heap.size w8 w9 := ((Below.refl _ _).alloc (Nat.le_refl _) _).trans (hb9.mono (by simp))
  have I9 := Lib.hid (I8.out.later hb9')
  have B9 := Lib.hid (B8.out.trans (hb9'.mono B8.out.size))
  clear hb9 hb9' NS I8 B8
  go_wp2_with fail
  refine (n_any 2 _).mono ?_
  rintro e wa ⟨rfl, hba⟩
  have Ia := I9.out.later hba
  have hax : Below wa.heap.size wa (wa.alloc (.cells #[.int .i64 1, .int .i64 2, .string ⟨#[]⟩] 24)) := (Below.refl _ _).alloc (Nat.le_refl _) _
  have RG := range_any (wa.alloc (.cells #[.int .i64 1, .int .i64 2, .string ⟨#[]⟩] 24)) _ p exL [nu 2] [] (some ⟨wa.heap.size, 0, none⟩) none 1 0 0 (wa.heap.size + 1) 0 0 (Ia.later hax) (by decide) (by omega) (by decide) (by omega)
    (one_arr (Nat.zero_le _) (Nat.lt_succ_self _) ⟨by rw [Lib.cell_of_heap (heap_alloc_new _ _)]; rfl, by rw [Lib.cell_of_heap (heap_alloc_new _ _)]; rfl, by rw [Lib.cell_of_heap (heap_alloc_new _ _)]; rfl⟩) (fun i hi => by simp at hi) (by simp) (Nat.zero_le _)
  rw [show ([nu 2] : List Val).head? = some (nu 2) from rfl, show ([] : List Val).head? = none from rfl, exRange] at RG
  have RG := Lib.hid RG
  have Ba := Lib.hid (B9.out.trans (hba.mono B9.out.size))
  have Ia := Lib.hid Ia
  have sa := Ba.out.size
  clear hba hax I9 B9
  go_wp2_with fail
  refine (RG.out).mono ?_
  rintro e wb ⟨⟨qb, cb, rfl, ob⟩, hbb⟩
  have hbb' : Below wa.heap.size wa wb := ((Below.refl _ _).alloc (Nat.le_refl _) _).trans (hbb.mono (by simp))
  have Ib := Lib.hid (Ia.out.later hbb')
  have Bb := Lib.hid (Ba.out.trans (hbb'.mono sa))
  have NS := Lib.hid (numbers_same [0, 3] qb (some ⟨wb.heap.size, 0, none⟩) cb 2 _ wb.heap.size 0 (wb.heap.size + 1) (wb.alloc (.cells #[.int .i64 0, .int .i64 3] 3)) ob.le ob.le2 (by decide) (ob.arr.same (Same.of ((Below.refl _ _).alloc (Nat.le_refl _) _) (Nat.le_refl _))) (lit_ints [0, 3] _ rfl (heap_alloc_new _ _)))
  clear ob hbb hbb' RG Ia Ba sa
  go_wp2_with fail
  refine (NS.out).mono ?_
  rintro e wc ⟨rfl, hbc⟩
  have hbc' : Below wb.heap.size wb wc := ((Below.refl _ _).alloc (Nat.le_refl _) _).trans (hbc.mono (by simp))
  have Ic := Ib.out.later hbc'
  have HS := hash_any wc _ p exL nul Ic fit_nul
  rw [exNone] at HS
  have HS := Lib.hid HS
  have Ic := Lib.hid Ic
  have Bc := Lib.hid (Bb.out.trans (hbc'.mono Bb.out.size))
  clear hbc hbc' NS Ib Bb
  go_wp2_with fail
  refine (HS.out).mono ?_
  rintro e wd ⟨⟨qd, cd, rfl, -⟩, hbd⟩
  have DI := Lib.hid (distinct_any wd _ p exL (Ic.out.later hbd))
  rw [exDist] at DI
  have Bd := Lib.hid (Bc.out.trans (hbd.mono Bc.out.size))
  clear hbd HS Ic Bc
  go_wp2_with fail
  refine (DI.out).mono ?_
  rintro e we ⟨rfl, hbe⟩
  have Be := Lib.hid (Bd.out.trans (hbe.mono Bd.out.size))
  clear hbe DI Bd
  go_wp2_with fail
  go_ret
  exact ⟨rfl, Be.out⟩

end Go.Proofs.Ytflbeccfdbjbhaa
