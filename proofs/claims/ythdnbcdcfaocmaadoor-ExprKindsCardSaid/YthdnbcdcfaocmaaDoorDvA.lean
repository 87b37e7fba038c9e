/- The developers' small functions: between, fitsValue, fits. -/
import Derived.Test.YthdnbcdcfaocmaaDoorExA
import Derived.Test.YthdnbcdcfaocmaaDoorGe
import Derived.Test.YthdnbcdcfaocmaaDoorValQ
namespace Go.Proofs.YthdnbcdcfaocmaaDoor
open Go.RowKit
set_option maxRecDepth 100000

theorem between_any (a b c : Int) (w : World) : Calls Tryd.prog 50 #[.int .i64 a, .int .i64 b, .int .i64 c] w fun e w' => e = .returned (.bool (decide (a ≤ b) && decide (b ≤ c))) ∧ w' = w := by
  rcases Int.lt_or_le b a with h1 | h1
  · have d : ¬ a ≤ b := by omega
    rw [decide_eq_false d]
    go_enter Tryd.func50, Tryd.ntmps50
    go_wp2
    go_ret
    exact ⟨rfl, rfl⟩
  · rw [decide_eq_true h1]
    rcases Int.lt_or_le c b with h2 | h2
    · have d : ¬ b ≤ c := by omega
      rw [decide_eq_false d]
      go_enter Tryd.func50, Tryd.ntmps50
      go_wp2
      go_ret
      exact ⟨rfl, rfl⟩
    · rw [decide_eq_true h2]
      go_enter Tryd.func50, Tryd.ntmps50
      go_wp2
      go_ret
      exact ⟨rfl, rfl⟩

theorem eq_zero (v : Val) (W : World) : (binOp .eql 23 (.agg #[.int .i64 v.k, .int .i64 v.n, .string v.s]) (.agg #[.int .i64 0, .int .i64 0, .string ⟨#[]⟩])).run Tryd.prog W = .ok (.bool (isZeroV v)) W := (Tryd.eqlVal v ⟨0, 0, ⟨#[]⟩⟩ W).trans (by unfold isZeroV; simp)

/-- What is asked of V. -/
def valueOk (op : Int) (v : Val) : Bool := if op = 1 then v.right else isZeroV v

set_option maxHeartbeats 2000000 in
theorem fitsValue_any (op : Int) (v : Val) (rel col n : Int) (s : ByteArray) (q : Option Addr) (len c : Nat) (w : World) :
    Calls Tryd.prog 71 #[.agg (exCells op v rel col n s q len c).toArray] w fun e w' => e = .returned (.bool (valueOk op v)) ∧ Below w.heap.size w w' := by
  have E0 := EB.new w op v rel col n s q len c 26
  have B0 : Below w.heap.size w (w.alloc (.cells (exCells op v rel col n s q len c).toArray 26)) := ext_alloc (ext_refl _) _
  obtain ⟨W, hW⟩ : ∃ W, W = w.alloc (.cells (exCells op v rel col n s q len c).toArray 26) := ⟨_, rfl⟩
  rw [← hW] at E0 B0
  go_enter Tryd.func71, Tryd.ntmps71
  go_upto_region 1 with fail
  rw [← hW]
  clear hW
  obtain ⟨g, hg⟩ : ∃ g, g = w.heap.size := ⟨_, rfl⟩
  have HB := Lib.hid B0
  have HGW := Lib.hid hg
  rw [← hg] at E0
  rw [← hg]
  clear B0 hg
  have HE := Lib.hid E0
  obtain ⟨lt, c0, c1, c2, c3, c4, c5, c6, c7, c8⟩ := E0
  by_cases h1 : op = 1
  · have m1 : (op == 1) = true := by rw [beq_iff_eq]; exact h1
    have HR := Lib.hid (show valueOk op v = v.right by unfold valueOk; rw [if_pos h1])
    clear h1
    go_wp2_with fail
    refine (right_any v W).mono ?_
    rintro e X ⟨rfl, hbX⟩
    have HX := Lib.hid (HB.out.trans (hbX.mono HB.out.size))
    clear hbX
    go_wp2_with fail
    refine bodyPost_ret (v := .bool v.right) (by simp [results, Tryd.results71, go_sem]) rfl ⟨by rw [HR.out], HX.out⟩
  · have m1 : (op == 1) = false := by rw [beq_eq_false_iff_ne]; exact h1
    have HR := Lib.hid (show valueOk op v = isZeroV v by unfold valueOk; rw [if_neg h1])
    clear h1
    have hz := eq_zero v
    go_wp2_with fail
    refine bodyPost_ret (v := .bool (isZeroV v)) (by simp [results, Tryd.results71, go_sem]) rfl ⟨by rw [HR.out], HB.out⟩

/-- The rest of what fits asks, by what the operation wants. -/
def fitsBy (a0 a3 a4 a5 a6 : Int) (op : Int) (v : Val) (rel col n : Int) (s : ByteArray) (len : Nat) : Bool :=
  ((len : Int) == a0) && valueOk op v && (s.toList == ([] : List UInt8)) && (decide (0 ≤ rel) && decide (rel ≤ a3)) && (decide (0 ≤ col) && decide (col ≤ a4)) && (decide (a5 ≤ n) && decide (n ≤ a6))
theorem need_row {k : Nat} (h1 : 1 ≤ k) (h2 : k ≤ 18) : ∃ a0 a1 a2 a3 a4 a5 a6 : Int, needT[k]? = some [a0, a1, a2, a3, a4, a5, a6] ∧ (wantsOf k = a0) ∧ (a3, a4) = (if (k : Int) = 2 then (15, 5) else (0, 0)) ∧ (a5, a6) = (if (k : Int) = 3 then (1, 4) else ((0 : Int), (0 : Int))) := by
  have h : k = 1 ∨ k = 2 ∨ k = 3 ∨ k = 4 ∨ k = 5 ∨ k = 6 ∨ k = 7 ∨ k = 8 ∨ k = 9 ∨ k = 10 ∨ k = 11 ∨ k = 12 ∨ k = 13 ∨ k = 14 ∨ k = 15 ∨ k = 16 ∨ k = 17 ∨ k = 18 := by omega
  rcases h with rfl | rfl | rfl | rfl | rfl | rfl | rfl | rfl | rfl | rfl | rfl | rfl | rfl | rfl | rfl | rfl | rfl | rfl <;> exact ⟨_, _, _, _, _, _, _, rfl, by decide, by decide, by decide⟩
theorem isZero_right {v : Val} (h : isZeroV v = true) : v.right = true := by
  unfold isZeroV at h
  simp only [Bool.and_eq_true, beq_iff_eq] at h
  obtain ⟨⟨h1, h2⟩, h3⟩ := h
  unfold Val.right
  rw [if_pos h1, h2, h3]
  rfl
theorem between_zero (x : Int) : (decide (0 ≤ x) && decide (x ≤ 0)) = (x == 0) := by
  rw [Bool.eq_iff_iff]
  simp only [Bool.and_eq_true, decide_eq_true_eq, beq_iff_eq]
  omega
theorem fitsBy_head {k : Nat} {a0 a3 a4 a5 a6 : Int} (hw : wantsOf k = a0) (h3 : (a3, a4) = (if (k : Int) = 2 then (15, 5) else (0, 0))) (h5 : (a5, a6) = (if (k : Int) = 3 then (1, 4) else ((0 : Int), (0 : Int)))) (v : Val) (rel col n : Int) (s : ByteArray) (len : Nat) :
    fitsBy a0 a3 a4 a5 a6 k v rel col n s len = headOk k v rel col n s len := by
  unfold fitsBy headOk
  have e1 : ((len : Int) == a0) = (wantsOf k == (len : Int)) := by rw [hw, Bool.eq_iff_iff, beq_iff_eq, beq_iff_eq]; exact eq_comm
  have e2 : valueOk k v = (v.right && ((k : Int) == 1 || isZeroV v)) := by
    unfold valueOk
    by_cases h : (k : Int) = 1
    · rw [if_pos h, beq_iff_eq.2 h, Bool.true_or, Bool.and_true]
    · rw [if_neg h, beq_eq_false_iff_ne.2 h, Bool.false_or]
      cases hz : isZeroV v with
      | false => rw [Bool.and_false]
      | true => rw [isZero_right hz]; rfl
  have e3 : ((decide (0 ≤ rel) && decide (rel ≤ a3)) && (decide (0 ≤ col) && decide (col ≤ a4))) = (if (k : Int) = 2 then decide (0 ≤ rel) && decide (rel ≤ 15) && decide (0 ≤ col) && decide (col ≤ 5) else rel == 0 && col == 0) := by
    by_cases h : (k : Int) = 2
    · rw [if_pos h] at h3 ⊢
      obtain ⟨rfl, rfl⟩ := Prod.mk.inj h3
      simp only [Bool.and_assoc]
    · rw [if_neg h] at h3 ⊢
      obtain ⟨rfl, rfl⟩ := Prod.mk.inj h3
      rw [between_zero, between_zero]
  have e5 : (decide (a5 ≤ n) && decide (n ≤ a6)) = (if (k : Int) = 3 then decide (1 ≤ n) && decide (n ≤ 4) else n == 0) := by
    by_cases h : (k : Int) = 3
    · rw [if_pos h] at h5 ⊢
      obtain ⟨rfl, rfl⟩ := Prod.mk.inj h5
      rfl
    · rw [if_neg h] at h5 ⊢
      obtain ⟨rfl, rfl⟩ := Prod.mk.inj h5
      rw [between_zero]
  rw [e1, e2, ← e3, ← e5]
  generalize (wantsOf k == (len : Int)) = A
  generalize (s.toList == ([] : List UInt8)) = B
  generalize v.right = C
  generalize ((k : Int) == 1 || isZeroV v) = D
  cases A <;> cases B <;> cases C <;> cases D <;> simp
theorem head_no {op : Int} (h : op < 1 ∨ 18 < op) (v : Val) (rel col n : Int) (s : ByteArray) (len : Nat) : headOk op v rel col n s len = false := by
  unfold headOk wantsOf
  rw [if_pos h, show ((-1 : Int) == (len : Int)) = false by rw [beq_eq_false_iff_ne]; omega]
  rfl

set_option maxHeartbeats 8000000 in
theorem fits_any (op : Int) (v : Val) (rel col n : Int) (s : ByteArray) (q : Option Addr) (len c : Nat) (w : World) (hG : GE w) :
    Calls Tryd.prog 44 #[.agg (exCells op v rel col n s q len c).toArray] w fun e w' => e = .returned (.bool (headOk op v rel col n s len)) ∧ Below w.heap.size w w' := by
  have HGw := Lib.hid hG
  clear hG
  have E0 := EB.new w op v rel col n s q len c 26
  have B0 : Below w.heap.size w (w.alloc (.cells (exCells op v rel col n s q len c).toArray 26)) := ext_alloc (ext_refl _) _
  obtain ⟨W, hW⟩ : ∃ W, W = w.alloc (.cells (exCells op v rel col n s q len c).toArray 26) := ⟨_, rfl⟩
  rw [← hW] at E0 B0
  go_enter Tryd.func44, Tryd.ntmps44
  go_upto_region 1 with fail
  rw [← hW]
  clear hW
  obtain ⟨g, hg⟩ : ∃ g, g = w.heap.size := ⟨_, rfl⟩
  have HB := Lib.hid B0
  have HGW := Lib.hid hg
  rw [← hg] at E0
  rw [← hg]
  clear B0 hg
  have HE := Lib.hid E0
  obtain ⟨lt, c0, c1, c2, c3, c4, c5, c6, c7, c8⟩ := E0
  by_cases h1 : op < 1
  · have HR := Lib.hid (head_no (op := op) (.inl h1) v rel col n s len)
    go_wp2_with fail
    refine bodyPost_ret (v := .bool false) (by simp [results, Tryd.results44, go_sem]) rfl ⟨by rw [HR.out], HB.out⟩
  by_cases h2 : op > 18
  · have HR := Lib.hid (head_no (op := op) (.inr h2) v rel col n s len)
    go_wp2_with fail
    refine bodyPost_ret (v := .bool false) (by simp [results, Tryd.results44, go_sem]) rfl ⟨by rw [HR.out], HB.out⟩
  obtain ⟨k, rfl⟩ : ∃ k : Nat, op = (k : Int) := ⟨op.toNat, by omega⟩
  obtain ⟨a0, a1, a2, a3, a4, a5, a6, hrow, hw, h3, h5⟩ := need_row (k := k) (by omega) (by omega)
  have hGW := HGw.out.on HB.out
  have n0 := hGW.nd k 0 _ _ hrow rfl
  have n1 := hGW.nd k 1 _ _ hrow rfl
  have n2 := hGW.nd k 2 _ _ hrow rfl
  have n3 := hGW.nd k 3 _ _ hrow rfl
  have n4 := hGW.nd k 4 _ _ hrow rfl
  have n5 := hGW.nd k 5 _ _ hrow rfl
  have n6 := hGW.nd k 6 _ _ hrow rfl
  have HR := Lib.hid (fitsBy_head hw h3 h5 v rel col n s len)
  clear hw h3 h5 hrow hGW
  simp only [Nat.add_zero] at n0
  go_upto_region 4 with fail
  have EV := HE.out.on (ext_alloc (ext_refl W) (.cells #[.int .i64 a0, .int .i64 a1, .int .i64 a2, .int .i64 a3, .int .i64 a4, .int .i64 a5, .int .i64 a6] 80))
  have HB2 := Lib.hid (ext_alloc HB.out (.cells #[.int .i64 a0, .int .i64 a1, .int .i64 a2, .int .i64 a3, .int .i64 a4, .int .i64 a5, .int .i64 a6] 80))
  obtain ⟨V, hV⟩ : ∃ V, V = W.alloc (.cells #[.int .i64 a0, .int .i64 a1, .int .i64 a2, .int .i64 a3, .int .i64 a4, .int .i64 a5, .int .i64 a6] 80) := ⟨_, rfl⟩
  rw [← hV] at EV HB2
  rw [← hV]
  have m0 : V.cell? ⟨W.heap.size, 0, none⟩ = some (.int .i64 a0) := by rw [hV]; simp [go_sem]
  have m3 : V.cell? ⟨W.heap.size, 3, none⟩ = some (.int .i64 a3) := by rw [hV]; simp [go_sem]
  have m4 : V.cell? ⟨W.heap.size, 4, none⟩ = some (.int .i64 a4) := by rw [hV]; simp [go_sem]
  have m5 : V.cell? ⟨W.heap.size, 5, none⟩ = some (.int .i64 a5) := by rw [hV]; simp [go_sem]
  have m6 : V.cell? ⟨W.heap.size, 6, none⟩ = some (.int .i64 a6) := by rw [hV]; simp [go_sem]
  have ltV : W.heap.size < V.heap.size := by rw [hV]; simp
  have HH := Lib.hid (And.intro ltV (And.intro m3 (And.intro m4 (And.intro m5 m6))))
  have HEV := Lib.hid EV
  clear hV HB HE n0 n1 n2 n3 n4 n5 n6 c0 c1 c2 c3 c4 c5 c6 c7 c8 lt HGw m3 m4 m5 m6 h1 h2
  obtain ⟨h, hh⟩ : ∃ h, h = W.heap.size := ⟨_, rfl⟩
  rw [← hh] at m0 ltV HH ⊢
  clear hh
  obtain ⟨lt, c0, c1, c2, c3, c4, c5, c6, c7, c8⟩ := EV
  unfold fitsBy at HR
  cases z1 : ((len : Int) == a0) with
  | false =>
    rw [z1] at HR
    go_wp2_with fail
    refine bodyPost_ret (v := .bool false) (by simp [results, Tryd.results44, go_sem]) rfl ⟨by rw [← HR.out]; rfl, HB2.out⟩
  | true =>
    rw [z1] at HR
    go_wp2_with fail
    refine (fitsValue_any (k : Int) v rel col n s q len c V).mono ?_
    rintro e X ⟨rfl, hbX⟩
    have HX := Lib.hid (HB2.out.trans (hbX.mono HB2.out.size))
    have EX := HEV.out.on hbX
    obtain ⟨ltV, m3, m4, m5, m6⟩ := HH.out
    have m3 := (hbX.cell (p := ⟨h, _, none⟩) ltV).trans m3
    have m4 := (hbX.cell (p := ⟨h, _, none⟩) ltV).trans m4
    have m5 := (hbX.cell (p := ⟨h, _, none⟩) ltV).trans m5
    have m6 := (hbX.cell (p := ⟨h, _, none⟩) ltV).trans m6
    have ltX := Nat.lt_of_lt_of_le ltV hbX.size
    clear hbX ltV m0 HH HEV lt c0 c1 c2 c3 c4 c5 c6 c7 c8 HB2
    obtain ⟨lt, c0, c1, c2, c3, c4, c5, c6, c7, c8⟩ := EX
    cases z2 : valueOk (k : Int) v with
    | false =>
      rw [z2] at HR
      go_wp2_with fail
      refine bodyPost_ret (v := .bool false) (by simp [results, Tryd.results44, go_sem]) rfl ⟨by rw [← HR.out]; rfl, HX.out⟩
    | true =>
      rw [z2] at HR
      cases z3 : (s.toList == ([] : List UInt8)) with
      | false =>
        rw [z3] at HR
        go_wp2_with fail
        refine bodyPost_ret (v := .bool false) (by simp [results, Tryd.results44, go_sem]) rfl ⟨by rw [← HR.out]; rfl, HX.out⟩
      | true =>
        rw [z3] at HR
        go_wp2_with fail
        refine (between_any 0 rel a3 _).mono ?_
        rintro e Y ⟨rfl, rfl⟩
        cases z4 : (decide (0 ≤ rel) && decide (rel ≤ a3)) with
        | false =>
          rw [z4] at HR
          go_wp2_with fail
          refine bodyPost_ret (v := .bool false) (by simp [results, Tryd.results44, go_sem]) rfl ⟨by rw [← HR.out]; rfl, HX.out⟩
        | true =>
          rw [z4] at HR
          go_wp2_with fail
          refine (between_any 0 col a4 _).mono ?_
          rintro e Y2 ⟨rfl, rfl⟩
          cases z5 : (decide (0 ≤ col) && decide (col ≤ a4)) with
          | false =>
            rw [z5] at HR
            go_wp2_with fail
            refine bodyPost_ret (v := .bool false) (by simp [results, Tryd.results44, go_sem]) rfl ⟨by rw [← HR.out]; rfl, HX.out⟩
          | true =>
            rw [z5] at HR
            go_wp2_with fail
            refine (between_any a5 n a6 _).mono ?_
            rintro e Y3 ⟨rfl, rfl⟩
            cases z6 : (decide (a5 ≤ n) && decide (n ≤ a6)) with
            | false =>
              rw [z6] at HR
              go_wp2_with fail
              refine bodyPost_ret (v := .bool false) (by simp [results, Tryd.results44, go_sem]) rfl ⟨by rw [← HR.out]; rfl, HX.out⟩
            | true =>
              rw [z6] at HR
              go_wp2_with fail
              refine bodyPost_ret (v := .bool true) (by simp [results, Tryd.results44, go_sem]) rfl ⟨by rw [← HR.out]; rfl, HX.out⟩

end Go.Proofs.YthdnbcdcfaocmaaDoor
