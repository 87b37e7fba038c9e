/- A part of the proof. -/
import Derived.Test.YtklgoajgchfmeaaDoorExD
import Derived.Test.YtklgoajgchfmeaaDoorKe
import Derived.Test.YtklgoajgchfmeaaDoorKc
import Derived.Laws.EntriesVeiled
import Derived.Deep.Quiet
import Derived.Deep.QuietTactic
import Derived.BigQuiet
set_option linter.unusedVariables false
set_option linter.unusedSimpArgs false
namespace Go.Proofs.YtklgoajgchfmeaaDoor
open Go.RowKit
set_option maxRecDepth 100000
theorem between_any (a b c : Int) (w : World) : Calls Tryd.prog 51 #[.int .i64 a, .int .i64 b, .int .i64 c] w fun e w' => e = .returned (.bool (decide (a ≤ b) && decide (b ≤ c))) ∧ w' = w := by
  rcases Int.lt_or_le b a with h1 | h1
  · have d : ¬ a ≤ b := by omega
    rw [decide_eq_false d]
    go_enter Tryd.func51, Tryd.ntmps51
    go_wp2
    go_ret
    exact ⟨rfl, rfl⟩
  · rw [decide_eq_true h1]
    rcases Int.lt_or_le c b with h2 | h2
    · have d : ¬ b ≤ c := by omega
      rw [decide_eq_false d]
      go_enter Tryd.func51, Tryd.ntmps51
      go_wp2
      go_ret
      exact ⟨rfl, rfl⟩
    · rw [decide_eq_true h2]
      go_enter Tryd.func51, Tryd.ntmps51
      go_wp2
      go_ret
      exact ⟨rfl, rfl⟩
theorem eq_zero (v : Val) (W : World) : (binOp .eql 23 (.agg #[.int .i64 v.k, .int .i64 v.n, .string v.s]) (.agg #[.int .i64 0, .int .i64 0, .string ⟨#[]⟩])).run Tryd.prog W = .ok (.bool (isZeroV v)) W := (Tryd.eqlVal v ⟨0, 0, ⟨#[]⟩⟩ W).trans (by unfold isZeroV; simp)
def valueOk (op : Int) (v : Val) : Bool := if op = 1 then v.right else isZeroV v
set_option maxHeartbeats 2000000 in
theorem fitsValue_any (op : Int) (v : Val) (rel col n : Int) (s : ByteArray) (q : Option Addr) (len c : Nat) (w : World) :
    Calls Tryd.prog 50 #[.agg (exCells op v rel col n s q len c).toArray] w fun e w' => e = .returned (.bool (valueOk op v)) ∧ Below w.heap.size w w' := by
  have E0 := EB.new w op v rel col n s q len c 26
  have B0 : Below w.heap.size w (w.alloc (.cells (exCells op v rel col n s q len c).toArray 26)) := ext_alloc (ext_refl _) _
  obtain ⟨W, hW⟩ : ∃ W, W = w.alloc (.cells (exCells op v rel col n s q len c).toArray 26) := ⟨_, rfl⟩
  rw [← hW] at E0 B0
  go_enter Tryd.func50, Tryd.ntmps50
  go_upto_region 1 with fail
  rw [← hW]
  clear hW
  obtain ⟨g, hg⟩ : ∃ g, g = w.heap.size := ⟨_, rfl⟩
  have HB := Lib.hid B0
  have HGW := Lib.hid hg
  rw [← hg] at E0
  rw [← hg]
  clear B0 hg
  have HE := Lib.hid E0
  obtain ⟨lt, c0, c1, c2, c3, c4, c5, c6, c7, c8⟩ := E0
  by_cases h1 : op = 1
  · have m1 : (op == 1) = true := by rw [beq_iff_eq]; exact h1
    have HR := Lib.hid (show valueOk op v = v.right by unfold valueOk; rw [if_pos h1])
    clear h1
    go_wp2_with fail
    refine (right_any v W).mono ?_
    rintro e X ⟨rfl, hbX⟩
    have HX := Lib.hid (HB.out.trans (hbX.mono HB.out.size))
    clear hbX
    go_wp2_with fail
    refine bodyPost_ret (v := .bool v.right) (by simp [results, Tryd.results50, go_sem]) rfl ⟨by rw [HR.out], HX.out⟩
  · have m1 : (op == 1) = false := by rw [beq_eq_false_iff_ne]; exact h1
    have HR := Lib.hid (show valueOk op v = isZeroV v by unfold valueOk; rw [if_neg h1])
    clear h1
    have hz := eq_zero v
    go_wp2_with fail
    refine bodyPost_ret (v := .bool (isZeroV v)) (by simp [results, Tryd.results50, go_sem]) rfl ⟨by rw [HR.out], HB.out⟩
def fitsBy (a0 a3 a4 a5 a6 : Int) (op : Int) (v : Val) (rel col n : Int) (s : ByteArray) (len : Nat) : Bool :=
  ((len : Int) == a0) && valueOk op v && (s.toList == ([] : List UInt8)) && (decide (0 ≤ rel) && decide (rel ≤ a3)) && (decide (0 ≤ col) && decide (col ≤ a4)) && (decide (a5 ≤ n) && decide (n ≤ a6))
theorem need_row {k : Nat} (h1 : 1 ≤ k) (h2 : k ≤ 18) : ∃ a0 a1 a2 a3 a4 a5 a6 : Int, needT[k]? = some [a0, a1, a2, a3, a4, a5, a6] ∧ (wantsOf k = a0) ∧ (a3, a4) = (if (k : Int) = 2 then (15, 5) else (0, 0)) ∧ (a5, a6) = (if (k : Int) = 3 then (1, 4) else ((0 : Int), (0 : Int))) := by
  have h : k = 1 ∨ k = 2 ∨ k = 3 ∨ k = 4 ∨ k = 5 ∨ k = 6 ∨ k = 7 ∨ k = 8 ∨ k = 9 ∨ k = 10 ∨ k = 11 ∨ k = 12 ∨ k = 13 ∨ k = 14 ∨ k = 15 ∨ k = 16 ∨ k = 17 ∨ k = 18 := by omega
  rcases h with rfl | rfl | rfl | rfl | rfl | rfl | rfl | rfl | rfl | rfl | rfl | rfl | rfl | rfl | rfl | rfl | rfl | rfl <;> exact ⟨_, _, _, _, _, _, _, rfl, by decide, by decide, by decide⟩
theorem isZero_right {v : Val} (h : isZeroV v = true) : v.right = true := by
  unfold isZeroV at h
  simp only [Bool.and_eq_true, beq_iff_eq] at h
  obtain ⟨⟨h1, h2⟩, h3⟩ := h
  unfold Val.right
  rw [if_pos h1, h2, h3]
  rfl
theorem between_zero (x : Int) : (decide (0 ≤ x) && decide (x ≤ 0)) = (x == 0) := by
  rw [Bool.eq_iff_iff]
  simp only [Bool.and_eq_true, decide_eq_true_eq, beq_iff_eq]
  omega
theorem fitsBy_head {k : Nat} {a0 a3 a4 a5 a6 : Int} (hw : wantsOf k = a0) (h3 : (a3, a4) = (if (k : Int) = 2 then (15, 5) else (0, 0))) (h5 : (a5, a6) = (if (k : Int) = 3 then (1, 4) else ((0 : Int), (0 : Int)))) (v : Val) (rel col n : Int) (s : ByteArray) (len : Nat) :
    fitsBy a0 a3 a4 a5 a6 k v rel col n s len = headOk k v rel col n s len := by
  unfold fitsBy headOk
  have e1 : ((len : Int) == a0) = (wantsOf k == (len : Int)) := by rw [hw, Bool.eq_iff_iff, beq_iff_eq, beq_iff_eq]; exact eq_comm
  have e2 : valueOk k v = (v.right && ((k : Int) == 1 || isZeroV v)) := by
    unfold valueOk
    by_cases h : (k : Int) = 1
    · rw [if_pos h, beq_iff_eq.2 h, Bool.true_or, Bool.and_true]
    · rw [if_neg h, beq_eq_false_iff_ne.2 h, Bool.false_or]
      cases hz : isZeroV v with
      | false => rw [Bool.and_false]
      | true => rw [isZero_right hz]; rfl
  have e3 : ((decide (0 ≤ rel) && decide (rel ≤ a3)) && (decide (0 ≤ col) && decide (col ≤ a4))) = (if (k : Int) = 2 then decide (0 ≤ rel) && decide (rel ≤ 15) && decide (0 ≤ col) && decide (col ≤ 5) else rel == 0 && col == 0) := by
    by_cases h : (k : Int) = 2
    · rw [if_pos h] at h3 ⊢
      obtain ⟨rfl, rfl⟩ := Prod.mk.inj h3
      simp only [Bool.and_assoc]
    · rw [if_neg h] at h3 ⊢
      obtain ⟨rfl, rfl⟩ := Prod.mk.inj h3
      rw [between_zero, between_zero]
  have e5 : (decide (a5 ≤ n) && decide (n ≤ a6)) = (if (k : Int) = 3 then decide (1 ≤ n) && decide (n ≤ 4) else n == 0) := by
    by_cases h : (k : Int) = 3
    · rw [if_pos h] at h5 ⊢
      obtain ⟨rfl, rfl⟩ := Prod.mk.inj h5
      rfl
    · rw [if_neg h] at h5 ⊢
      obtain ⟨rfl, rfl⟩ := Prod.mk.inj h5
      rw [between_zero]
  rw [e1, e2, ← e3, ← e5]
  generalize (wantsOf k == (len : Int)) = A
  generalize (s.toList == ([] : List UInt8)) = B
  generalize v.right = C
  generalize ((k : Int) == 1 || isZeroV v) = D
  cases A <;> cases B <;> cases C <;> cases D <;> simp
theorem head_no {op : Int} (h : op < 1 ∨ 18 < op) (v : Val) (rel col n : Int) (s : ByteArray) (len : Nat) : headOk op v rel col n s len = false := by
  unfold headOk wantsOf
  rw [if_pos h, show ((-1 : Int) == (len : Int)) = false by rw [beq_eq_false_iff_ne]; omega]
  rfl
set_option maxHeartbeats 8000000 in
theorem fits_any (op : Int) (v : Val) (rel col n : Int) (s : ByteArray) (q : Option Addr) (len c : Nat) (w : World) (hG : GE w) :
    Calls Tryd.prog 37 #[.agg (exCells op v rel col n s q len c).toArray] w fun e w' => e = .returned (.bool (headOk op v rel col n s len)) ∧ Below w.heap.size w w' := by
  have HGw := Lib.hid hG
  clear hG
  have E0 := EB.new w op v rel col n s q len c 26
  have B0 : Below w.heap.size w (w.alloc (.cells (exCells op v rel col n s q len c).toArray 26)) := ext_alloc (ext_refl _) _
  obtain ⟨W, hW⟩ : ∃ W, W = w.alloc (.cells (exCells op v rel col n s q len c).toArray 26) := ⟨_, rfl⟩
  rw [← hW] at E0 B0
  go_enter Tryd.func37, Tryd.ntmps37
  go_upto_region 1 with fail
  rw [← hW]
  clear hW
  obtain ⟨g, hg⟩ : ∃ g, g = w.heap.size := ⟨_, rfl⟩
  have HB := Lib.hid B0
  have HGW := Lib.hid hg
  rw [← hg] at E0
  rw [← hg]
  clear B0 hg
  have HE := Lib.hid E0
  obtain ⟨lt, c0, c1, c2, c3, c4, c5, c6, c7, c8⟩ := E0
  by_cases h1 : op < 1
  · have HR := Lib.hid (head_no (op := op) (.inl h1) v rel col n s len)
    go_wp2_with fail
    refine bodyPost_ret (v := .bool false) (by simp [results, Tryd.results37, go_sem]) rfl ⟨by rw [HR.out], HB.out⟩
  by_cases h2 : op > 18
  · have HR := Lib.hid (head_no (op := op) (.inr h2) v rel col n s len)
    go_wp2_with fail
    refine bodyPost_ret (v := .bool false) (by simp [results, Tryd.results37, go_sem]) rfl ⟨by rw [HR.out], HB.out⟩
  obtain ⟨k, rfl⟩ : ∃ k : Nat, op = (k : Int) := ⟨op.toNat, by omega⟩
  obtain ⟨a0, a1, a2, a3, a4, a5, a6, hrow, hw, h3, h5⟩ := need_row (k := k) (by omega) (by omega)
  have hGW := HGw.out.on HB.out
  have n0 := hGW.nd k 0 _ _ hrow rfl
  have n1 := hGW.nd k 1 _ _ hrow rfl
  have n2 := hGW.nd k 2 _ _ hrow rfl
  have n3 := hGW.nd k 3 _ _ hrow rfl
  have n4 := hGW.nd k 4 _ _ hrow rfl
  have n5 := hGW.nd k 5 _ _ hrow rfl
  have n6 := hGW.nd k 6 _ _ hrow rfl
  have HR := Lib.hid (fitsBy_head hw h3 h5 v rel col n s len)
  clear hw h3 h5 hrow hGW
  simp only [Nat.add_zero] at n0
  go_upto_region 4 with fail
  have EV := HE.out.on (ext_alloc (ext_refl W) (.cells #[.int .i64 a0, .int .i64 a1, .int .i64 a2, .int .i64 a3, .int .i64 a4, .int .i64 a5, .int .i64 a6] 83))
  have HB2 := Lib.hid (ext_alloc HB.out (.cells #[.int .i64 a0, .int .i64 a1, .int .i64 a2, .int .i64 a3, .int .i64 a4, .int .i64 a5, .int .i64 a6] 83))
  obtain ⟨V, hV⟩ : ∃ V, V = W.alloc (.cells #[.int .i64 a0, .int .i64 a1, .int .i64 a2, .int .i64 a3, .int .i64 a4, .int .i64 a5, .int .i64 a6] 83) := ⟨_, rfl⟩
  rw [← hV] at EV HB2
  rw [← hV]
  have m0 : V.cell? ⟨W.heap.size, 0, none⟩ = some (.int .i64 a0) := by rw [hV]; simp [go_sem]
  have m3 : V.cell? ⟨W.heap.size, 3, none⟩ = some (.int .i64 a3) := by rw [hV]; simp [go_sem]
  have m4 : V.cell? ⟨W.heap.size, 4, none⟩ = some (.int .i64 a4) := by rw [hV]; simp [go_sem]
  have m5 : V.cell? ⟨W.heap.size, 5, none⟩ = some (.int .i64 a5) := by rw [hV]; simp [go_sem]
  have m6 : V.cell? ⟨W.heap.size, 6, none⟩ = some (.int .i64 a6) := by rw [hV]; simp [go_sem]
  have ltV : W.heap.size < V.heap.size := by rw [hV]; simp
  have HH := Lib.hid (And.intro ltV (And.intro m3 (And.intro m4 (And.intro m5 m6))))
  have HEV := Lib.hid EV
  clear hV HB HE n0 n1 n2 n3 n4 n5 n6 c0 c1 c2 c3 c4 c5 c6 c7 c8 lt HGw m3 m4 m5 m6 h1 h2
  obtain ⟨h, hh⟩ : ∃ h, h = W.heap.size := ⟨_, rfl⟩
  rw [← hh] at m0 ltV HH ⊢
  clear hh
  obtain ⟨lt, c0, c1, c2, c3, c4, c5, c6, c7, c8⟩ := EV
  unfold fitsBy at HR
  cases z1 : ((len : Int) == a0) with
  | false =>
    rw [z1] at HR
    go_wp2_with fail
    refine bodyPost_ret (v := .bool false) (by simp [results, Tryd.results37, go_sem]) rfl ⟨by rw [← HR.out]; rfl, HB2.out⟩
  | true =>
    rw [z1] at HR
    go_wp2_with fail
    refine (fitsValue_any (k : Int) v rel col n s q len c V).mono ?_
    rintro e X ⟨rfl, hbX⟩
    have HX := Lib.hid (HB2.out.trans (hbX.mono HB2.out.size))
    have EX := HEV.out.on hbX
    obtain ⟨ltV, m3, m4, m5, m6⟩ := HH.out
    have m3 := (hbX.cell (p := ⟨h, _, none⟩) ltV).trans m3
    have m4 := (hbX.cell (p := ⟨h, _, none⟩) ltV).trans m4
    have m5 := (hbX.cell (p := ⟨h, _, none⟩) ltV).trans m5
    have m6 := (hbX.cell (p := ⟨h, _, none⟩) ltV).trans m6
    have ltX := Nat.lt_of_lt_of_le ltV hbX.size
    clear hbX ltV m0 HH HEV lt c0 c1 c2 c3 c4 c5 c6 c7 c8 HB2
    obtain ⟨lt, c0, c1, c2, c3, c4, c5, c6, c7, c8⟩ := EX
    cases z2 : valueOk (k : Int) v with
    | false =>
      rw [z2] at HR
      go_wp2_with fail
      refine bodyPost_ret (v := .bool false) (by simp [results, Tryd.results37, go_sem]) rfl ⟨by rw [← HR.out]; rfl, HX.out⟩
    | true =>
      rw [z2] at HR
      cases z3 : (s.toList == ([] : List UInt8)) with
      | false =>
        rw [z3] at HR
        go_wp2_with fail
        refine bodyPost_ret (v := .bool false) (by simp [results, Tryd.results37, go_sem]) rfl ⟨by rw [← HR.out]; rfl, HX.out⟩
      | true =>
        rw [z3] at HR
        go_wp2_with fail
        refine (between_any 0 rel a3 _).mono ?_
        rintro e Y ⟨rfl, rfl⟩
        cases z4 : (decide (0 ≤ rel) && decide (rel ≤ a3)) with
        | false =>
          rw [z4] at HR
          go_wp2_with fail
          refine bodyPost_ret (v := .bool false) (by simp [results, Tryd.results37, go_sem]) rfl ⟨by rw [← HR.out]; rfl, HX.out⟩
        | true =>
          rw [z4] at HR
          go_wp2_with fail
          refine (between_any 0 col a4 _).mono ?_
          rintro e Y2 ⟨rfl, rfl⟩
          cases z5 : (decide (0 ≤ col) && decide (col ≤ a4)) with
          | false =>
            rw [z5] at HR
            go_wp2_with fail
            refine bodyPost_ret (v := .bool false) (by simp [results, Tryd.results37, go_sem]) rfl ⟨by rw [← HR.out]; rfl, HX.out⟩
          | true =>
            rw [z5] at HR
            go_wp2_with fail
            refine (between_any a5 n a6 _).mono ?_
            rintro e Y3 ⟨rfl, rfl⟩
            cases z6 : (decide (a5 ≤ n) && decide (n ≤ a6)) with
            | false =>
              rw [z6] at HR
              go_wp2_with fail
              refine bodyPost_ret (v := .bool false) (by simp [results, Tryd.results37, go_sem]) rfl ⟨by rw [← HR.out]; rfl, HX.out⟩
            | true =>
              rw [z6] at HR
              go_wp2_with fail
              refine bodyPost_ret (v := .bool true) (by simp [results, Tryd.results37, go_sem]) rfl ⟨by rw [← HR.out]; rfl, HX.out⟩
open Go.RowKit
set_option maxRecDepth 100000
theorem Out.cellA {A : Nat} {w w' : World} (h : Out (fun k => k = A) w w') {g o : Nat} (hg : g < w.heap.size) (hA : g ≠ A) : w'.cell? ⟨g, o, none⟩ = w.cell? ⟨g, o, none⟩ := by
  have := h.block g hg hA
  simp only [World.cell?, this]
theorem EB.out {W W' : World} {A g : Nat} {op : Int} {v : Val} {rel col n : Int} {s : ByteArray} {q : Option Addr} {len c : Nat} (h : EB W g op v rel col n s q len c) (ho : Out (fun k => k = A) W W') (hA : g ≠ A) : EB W' g op v rel col n s q len c :=
  ⟨Nat.lt_of_lt_of_le h.lt ho.size, (ho.cellA h.lt hA).trans h.c0, (ho.cellA h.lt hA).trans h.c1, (ho.cellA h.lt hA).trans h.c2, (ho.cellA h.lt hA).trans h.c3, (ho.cellA h.lt hA).trans h.c4, (ho.cellA h.lt hA).trans h.c5, (ho.cellA h.lt hA).trans h.c6, (ho.cellA h.lt hA).trans h.c7, (ho.cellA h.lt hA).trans h.c8⟩
structure RC (w : World) (A R n : Nat) : Prop where
  cA : w.cell? ⟨A, 0, none⟩ = some (.int .i64 (n : Int))
  fA : ∀ o, w.frozen? ⟨A, o, none⟩ = false
  cR : w.cell? ⟨R, 0, none⟩ = some (.func (.func 36) #[] #[.pointer (some ⟨A, 0, none⟩), .pointer (some ⟨R, 0, none⟩)])
  lA : A < w.heap.size
  lR : R < w.heap.size
  ne : R ≠ A
  h4 : 3 ≤ A
  le : n ≤ 200
  vars : GE w
theorem RC.on {w w' : World} {A R n : Nat} (h : RC w A R n) (hb : Below w.heap.size w w') : RC w' A R n where
  cA := (hb.cell (p := ⟨_, _, none⟩) h.lA).trans h.cA
  fA o := (hb.frozen (p := ⟨_, o, none⟩) h.lA).trans (h.fA o)
  cR := (hb.cell (p := ⟨_, _, none⟩) h.lR).trans h.cR
  lA := Nat.lt_of_lt_of_le h.lA hb.size
  lR := Nat.lt_of_lt_of_le h.lR hb.size
  ne := h.ne
  h4 := h.h4
  le := h.le
  vars := h.vars.on hb
theorem RC.set {w : World} {A R n : Nat} (h : RC w A R n) (m : Nat) {x : Int} (hx : x = (m : Int)) (hm : m ≤ 200) : RC (w.setCell ⟨A, 0, none⟩ (.int .i64 x)) A R m where
  cA := by rw [← hx]; exact World.cell?_setCell_same _ _ _ h.cA
  fA o := by rw [World.frozen?_setCell]; exact h.fA o
  cR := (World.cell?_setCell_other _ _ _ _ (fun e => h.ne (by simpa using (congrArg Addr.block e).symm))).trans h.cR
  lA := by rw [World.size_setCell]; exact h.lA
  lR := by rw [World.size_setCell]; exact h.lR
  ne := h.ne
  h4 := h.h4
  le := hm
  vars := h.vars.set h.h4 _
def rgt (d n : Nat) (x : Ex) : Bool := x.okAll && decide (d + x.deep ≤ 21) && decide (x.count ≤ n)
def rgtL (d n : Nat) (l : List Ex) : Bool := okL l && decide (d + deepL l ≤ 21) && decide (countL l ≤ n)
theorem rgt_mk (d n : Nat) (op : Int) (v : Val) (rel col k : Int) (s : ByteArray) (l : List Ex) (hn : n ≠ 0) (hh : headOk op v rel col k s l.length = true) : rgt d n (.mk op v rel col k s l) = rgtL (d + 1) (n - 1) l := by
  unfold rgt rgtL
  rw [Ex.okAll, hh, Bool.true_and, Ex.deep, Ex.count]
  have e1 : decide (d + (deepL l + 1) ≤ 21) = decide (d + 1 + deepL l ≤ 21) := by rw [Bool.eq_iff_iff]; simp only [decide_eq_true_eq]; omega
  have e2 : decide (countL l + 1 ≤ n) = decide (countL l ≤ n - 1) := by rw [Bool.eq_iff_iff]; simp only [decide_eq_true_eq]; omega
  rw [e1, e2]
theorem rgtL_nil (d n : Nat) (h : d ≤ 21) : rgtL d n [] = true := by
  unfold rgtL
  rw [okL, deepL, countL]
  simp [h]
theorem rgtL_cons (d n : Nat) (y : Ex) (r : List Ex) : rgtL d n (y :: r) = (rgt d n y && rgtL d (n - y.count) r) := by
  unfold rgtL rgt
  rw [okL, deepL, countL, Bool.eq_iff_iff]
  simp only [Bool.and_eq_true, decide_eq_true_eq]
  constructor
  · rintro ⟨⟨⟨h1, h2⟩, h3⟩, h4⟩
    exact ⟨⟨⟨h1, by omega⟩, by omega⟩, ⟨⟨h2, by omega⟩, by omega⟩⟩
  · rintro ⟨⟨⟨h1, h2⟩, h3⟩, ⟨⟨h4, h5⟩, h6⟩⟩
    exact ⟨⟨⟨h1, h4⟩, by omega⟩, by omega⟩
theorem rgt_head (d n : Nat) (op : Int) (v : Val) (rel col k : Int) (s : ByteArray) (l : List Ex) (hh : headOk op v rel col k s l.length = false) : rgt d n (.mk op v rel col k s l) = false := by
  unfold rgt
  rw [Ex.okAll, hh]
  rfl
theorem rgt_none (d : Nat) (x : Ex) : rgt d 0 x = false := by
  unfold rgt
  rw [decide_eq_false (by have := count_pos x; omega : ¬ x.count ≤ 0), Bool.and_false]
theorem rgt_deep (d n : Nat) (h : 20 < d) (x : Ex) : rgt d n x = false := by
  unfold rgt
  rw [decide_eq_false (by have := deep_pos x; omega : ¬ d + x.deep ≤ 21), Bool.and_false, Bool.false_and]
theorem ext_alloc_ {w0 w : World} (h : Below w0.heap.size w0 w) {o : Obj} : Below w0.heap.size w0 (w.alloc o) := ext_alloc h o
def RightC (x : Ex) : Prop := ∀ (w0 w : World) (cs : List Value) (A R d n : Nat) (z : Int), ExM w0 x cs → Below w0.heap.size w0 w → w0.heap.size ≤ A → RC w A R n → z = (d : Int) → d ≤ 21 →
  Calls Tryd.prog 36 #[.agg cs.toArray, .int .i64 z, .pointer (some ⟨A, 0, none⟩), .pointer (some ⟨R, 0, none⟩)] w fun e w' => ∃ m, e = .returned (.bool (rgt d n x)) ∧ RC w' A R m ∧ (rgt d n x = true → m + x.count = n) ∧ Out (fun k => k = A) w w'
set_option maxHeartbeats 8000000 in
theorem rightC_mk (op : Int) (v : Val) (rel col n : Int) (s : ByteArray) (l : List Ex) (IH : ∀ y ∈ l, RightC y) : RightC (.mk op v rel col n s l) := by
  intro w0 w cs A R d m z hx hb hA hR hz hd
  rw [ExM.iff] at hx
  obtain ⟨-, q, c, rfl, -, hl⟩ := hx
  have HL := Lib.hid hl
  have HI := Lib.hid IH
  have HRw := Lib.hid hR
  have Hb0 := Lib.hid hb
  have HA := Lib.hid hA
  have hAw := hR.lA
  have hRw := hR.lR
  subst hz
  clear hl IH hR hb
  obtain ⟨len, hlen⟩ : ∃ len, len = l.length := ⟨_, rfl⟩
  rw [← hlen]
  have HLEN := Lib.hid hlen
  clear hlen hA
  have E0 := EB.new w op v rel col n s q len c 26
  have B0 : Below w.heap.size w (w.alloc (.cells (exCells op v rel col n s q len c).toArray 26)) := ext_alloc (ext_refl _) _
  obtain ⟨W, hW⟩ : ∃ W, W = w.alloc (.cells (exCells op v rel col n s q len c).toArray 26) := ⟨_, rfl⟩
  rw [← hW] at E0 B0
  go_enter Tryd.func36, Tryd.ntmps36
  go_upto_region 1 with fail
  rw [← hW]
  clear hW
  obtain ⟨g, hg⟩ : ∃ g, g = w.heap.size := ⟨_, rfl⟩
  have HB := Lib.hid B0
  have HGW := Lib.hid hg
  rw [← hg] at E0
  rw [← hg]
  clear B0 hg
  have HE := Lib.hid E0
  obtain ⟨lt, c0, c1, c2, c3, c4, c5, c6, c7, c8⟩ := E0
  have hRW := HRw.out.on HB.out
  have hAg : A ≠ g := by have := HGW.out; omega
  have HRW := Lib.hid hRW
  have cA := hRW.cA
  have lA := hRW.lA
  by_cases h0 : m = 0
  · have z0 : ((m : Int) == 0) = true := by rw [beq_iff_eq]; omega
    have HQ := Lib.hid (show rgt d m (.mk op v rel col n s l) = false by rw [h0]; exact rgt_none _ _)
    clear h0
    go_wp2_with fail
    refine bodyPost_ret (v := .bool false) (by simp [results, Tryd.results36, go_sem]) rfl ⟨m, by rw [HQ.out], HRW.out, (fun h => by rw [HQ.out] at h; cases h), Out.of HB.out⟩
  have z0 : ((m : Int) == 0) = false := by rw [beq_eq_false_iff_ne]; omega
  by_cases h1 : 20 < d
  · have z1 : (d : Int) > 20 := by omega
    have HQ := Lib.hid (show rgt d m (.mk op v rel col n s l) = false from rgt_deep _ _ h1 _)
    clear h1
    go_wp2_with fail
    refine bodyPost_ret (v := .bool false) (by simp [results, Tryd.results36, go_sem]) rfl ⟨m, by rw [HQ.out], HRW.out, (fun h => by rw [HQ.out] at h; cases h), Out.of HB.out⟩
  have z1 : ¬ (d : Int) > 20 := by omega
  have HD := Lib.hid h1
  clear h1
  have HG := Lib.hid hRW.vars
  clear hRW
  go_wp2_with fail
  refine (fits_any op v rel col n s q len c W HG.out).mono ?_
  rintro e X ⟨he, hbX⟩
  have HBX := Lib.hid (HB.out.trans (hbX.mono HB.out.size))
  have EX := HE.out.on hbX
  have hRX := HRW.out.on hbX
  have HRX := Lib.hid hRX
  have HEX := Lib.hid EX
  clear lt c0 c1 c2 c3 c4 c5 c6 c7 c8 cA lA HB HE HRW HG hbX EX hRX
  have cA := HRX.out.cA
  have fA := HRX.out.fA
  have lA := HRX.out.lA
  have hle := HRX.out.le
  cases hh : headOk op v rel col n s len with
  | false =>
    have HQ := Lib.hid (show rgt d m (.mk op v rel col n s l) = false from rgt_head _ _ _ _ _ _ _ _ _ (by rw [← HLEN.out]; exact hh))
    rw [hh] at he
    clear hh
    subst he
    go_wp2_with fail
    refine bodyPost_ret (v := .bool false) (by simp [results, Tryd.results36, go_sem]) rfl ⟨m, by rw [HQ.out], HRX.out, (fun h => by rw [HQ.out] at h; cases h), Out.of HBX.out⟩
  | true =>
    have HQ := Lib.hid (rgt_mk d m op v rel col n s l h0 (by rw [← HLEN.out]; exact hh))
    have HT := Lib.hid (head_two hh)
    rw [hh] at he
    clear hh
    subst he
    go_upto_region 4 with fail
    have e1 : (m : Int) - 1 = ((m - 1 : Nat) : Int) := by omega
    have hRU := HRX.out.set (m - 1) e1 (by omega)
    have EU := HEX.out.out (Out.set (S := fun k => k = A) ⟨A, 0, none⟩ (.int .i64 ((m : Int) - 1)) rfl) (fun e => hAg e.symm)
    have HOU := Lib.hid ((Out.of (S := fun k => k = A) HBX.out).trans (Out.set ⟨A, 0, none⟩ (.int .i64 ((m : Int) - 1)) rfl))
    obtain ⟨U, hU⟩ : ∃ U, U = X.setCell ⟨A, 0, none⟩ (.int .i64 ((m : Int) - 1)) := ⟨_, rfl⟩
    rw [← hU] at hRU EU HOU
    rw [← hU]
    have HRU := Lib.hid hRU
    have HEU := Lib.hid EU
    obtain ⟨p, hp⟩ : ∃ p, p = m - 1 := ⟨_, rfl⟩
    rw [← hp] at HRU HQ
    have HP := Lib.hid hp
    clear hU cA fA lA hle HBX HRX HEX hRU e1 hp z0
    obtain ⟨lt, c0, c1, c2, c3, c4, c5, c6, c7, c8⟩ := EU
    have hb0U : Below w0.heap.size w0 U := Hb0.out.trans (HOU.out.below Hb0.out.size (fun k e => e ▸ HA.out))
    have HbU := Lib.hid hb0U
    have cR := HRU.out.cR
    have lR := HRU.out.lR
    clear hb0U
    rcases l with _ | ⟨y0, _ | ⟨y1, _ | ⟨y2, r⟩⟩⟩
    · skip
      obtain rfl : len = 0 := HLEN.out
      have HQ2 := Lib.hid (HQ.out.trans (rgtL_nil _ _ (by have := HD.out; omega)))
      have HC := Lib.hid (show p + (Ex.mk op v rel col n s []).count = m by rw [Ex.count, countL]; have := HP.out; omega)
      go_wp2_with fail
      refine wp_loop_rounds 1 ?_
      rw [rounds_succ]
      go_wp2_with fail
      refine bodyPost_ret (v := .bool true) (by simp [results, Tryd.results36, go_sem]) rfl ⟨p, by rw [HQ2.out], HRU.out, (fun _ => HC.out), HOU.out⟩
    · skip
      obtain rfl : len = 1 := HLEN.out
      have hl_ := ExL.at_ (j := 0) (x := y0) HL.out rfl
      obtain ⟨g0, off0, cs0, hq0, hg0, hx0, hcell⟩ := hl_
      subst hq0
      have HX0 := Lib.hid hx0
      obtain ⟨op1, v1, rel1, col1, n1, s1, l1⟩ := y0
      rw [ExM.iff] at hx0
      obtain ⟨-, qq0, cc0, rfl, -, -⟩ := hx0
      have f0 := (HbU.out.cell (p := ⟨_, _, none⟩) hg0).trans (hcell 0 _ rfl)
      have f1 := (HbU.out.cell (p := ⟨_, _, none⟩) hg0).trans (hcell 1 _ rfl)
      have f2 := (HbU.out.cell (p := ⟨_, _, none⟩) hg0).trans (hcell 2 _ rfl)
      have f3 := (HbU.out.cell (p := ⟨_, _, none⟩) hg0).trans (hcell 3 _ rfl)
      have f4 := (HbU.out.cell (p := ⟨_, _, none⟩) hg0).trans (hcell 4 _ rfl)
      have f5 := (HbU.out.cell (p := ⟨_, _, none⟩) hg0).trans (hcell 5 _ rfl)
      have f6 := (HbU.out.cell (p := ⟨_, _, none⟩) hg0).trans (hcell 6 _ rfl)
      have f7 := (HbU.out.cell (p := ⟨_, _, none⟩) hg0).trans (hcell 7 _ rfl)
      have f8 := (HbU.out.cell (p := ⟨_, _, none⟩) hg0).trans (hcell 8 _ rfl)
      simp only [Nat.zero_mul, Nat.add_zero] at f0 f1 f2 f3 f4 f5 f6 f7 f8
      have hgU0 := Nat.lt_of_lt_of_le hg0 HbU.out.size
      clear hcell
      go_wp2_with fail
      refine wp_loop_rounds 2 ?_
      rw [rounds_succ]
      go_wp2_with fail
      refine (HI.out (Ex.mk op1 v1 rel1 col1 n1 s1 l1) (by simp) w0 _ _ A R (d + 1) p _ HX0.out (ext_alloc_ HbU.out) HA.out (HRU.out.on (ext_alloc (ext_refl _) _)) (by push_cast; rfl) (by have := HD.out; omega)).mono ?_
      rintro e Y ⟨p1, he, hRY, hm, ho⟩
      have HOY := Lib.hid (HOU.out.trans ((Out.of (ext_alloc (ext_refl U) _)).trans ho))
      have EY := (HEU.out.on (ext_alloc (ext_refl _) _)).out ho (fun e => hAg e.symm)
      have HRY := Lib.hid hRY
      have HEY := Lib.hid EY
      have HMY := Lib.hid hm
      have HbY := Lib.hid (Hb0.out.trans (HOY.out.below Hb0.out.size (fun k e => e ▸ HA.out)))
      clear f0 f1 f2 f3 f4 f5 f6 f7 f8 c0 c1 c2 c3 c4 c5 c6 c7 c8 lt cR lR hRY ho hm
      obtain ⟨lt, c0, c1, c2, c3, c4, c5, c6, c7, c8⟩ := EY
      have cR := HRY.out.cR
      have lR := HRY.out.lR
      obtain ⟨b0, hbb⟩ : ∃ b, b = rgt (d + 1) p (Ex.mk op1 v1 rel1 col1 n1 s1 l1) := ⟨_, rfl⟩
      rw [← hbb] at he
      have HBB0 := Lib.hid hbb.symm
      clear hbb
      subst he
      cases b0 with
      | false =>
        have HQ2 := Lib.hid (show rgt d m (.mk op v rel col n s [.mk op1 v1 rel1 col1 n1 s1 l1]) = false by rw [HQ.out, rgtL_cons, HBB0.out, Bool.false_and])
        go_wp2_with fail
        refine bodyPost_ret (v := .bool false) (by simp [results, Tryd.results36, go_sem]) rfl ⟨p1, by rw [HQ2.out], HRY.out, (fun h => by rw [HQ2.out] at h; cases h), HOY.out⟩
      | true =>
        have HQ2 := Lib.hid (show rgt d m (.mk op v rel col n s [.mk op1 v1 rel1 col1 n1 s1 l1]) = true by rw [HQ.out, rgtL_cons, HBB0.out, Bool.true_and]; exact rgtL_nil _ _ (by have := HD.out; omega))
        have HC := Lib.hid (show p1 + (Ex.mk op v rel col n s [.mk op1 v1 rel1 col1 n1 s1 l1]).count = m by have h1 := HMY.out HBB0.out; have h2 := HP.out; rw [Ex.count, countL, countL]; omega)
        go_wp2_with fail
        rw [rounds_succ]
        go_wp2_with fail
        refine bodyPost_ret (v := .bool true) (by simp [results, Tryd.results36, go_sem]) rfl ⟨p1, by rw [HQ2.out], HRY.out, (fun _ => HC.out), HOY.out⟩
    · skip
      obtain rfl : len = 2 := HLEN.out
      have hl_ := ExL.at_ (j := 0) (x := y0) HL.out rfl
      obtain ⟨g0, off0, cs0, hq0, hg0, hx0, hcell⟩ := hl_
      subst hq0
      have HX0 := Lib.hid hx0
      obtain ⟨op1, v1, rel1, col1, n1, s1, l1⟩ := y0
      rw [ExM.iff] at hx0
      obtain ⟨-, qq0, cc0, rfl, -, -⟩ := hx0
      have f0 := (HbU.out.cell (p := ⟨_, _, none⟩) hg0).trans (hcell 0 _ rfl)
      have f1 := (HbU.out.cell (p := ⟨_, _, none⟩) hg0).trans (hcell 1 _ rfl)
      have f2 := (HbU.out.cell (p := ⟨_, _, none⟩) hg0).trans (hcell 2 _ rfl)
      have f3 := (HbU.out.cell (p := ⟨_, _, none⟩) hg0).trans (hcell 3 _ rfl)
      have f4 := (HbU.out.cell (p := ⟨_, _, none⟩) hg0).trans (hcell 4 _ rfl)
      have f5 := (HbU.out.cell (p := ⟨_, _, none⟩) hg0).trans (hcell 5 _ rfl)
      have f6 := (HbU.out.cell (p := ⟨_, _, none⟩) hg0).trans (hcell 6 _ rfl)
      have f7 := (HbU.out.cell (p := ⟨_, _, none⟩) hg0).trans (hcell 7 _ rfl)
      have f8 := (HbU.out.cell (p := ⟨_, _, none⟩) hg0).trans (hcell 8 _ rfl)
      simp only [Nat.zero_mul, Nat.add_zero] at f0 f1 f2 f3 f4 f5 f6 f7 f8
      have hgU0 := Nat.lt_of_lt_of_le hg0 HbU.out.size
      clear hcell
      go_wp2_with fail
      refine wp_loop_rounds 3 ?_
      rw [rounds_succ]
      go_wp2_with fail
      refine (HI.out (Ex.mk op1 v1 rel1 col1 n1 s1 l1) (by simp) w0 _ _ A R (d + 1) p _ HX0.out (ext_alloc_ HbU.out) HA.out (HRU.out.on (ext_alloc (ext_refl _) _)) (by push_cast; rfl) (by have := HD.out; omega)).mono ?_
      rintro e Y ⟨p1, he, hRY, hm, ho⟩
      have HOY := Lib.hid (HOU.out.trans ((Out.of (ext_alloc (ext_refl U) _)).trans ho))
      have EY := (HEU.out.on (ext_alloc (ext_refl _) _)).out ho (fun e => hAg e.symm)
      have HRY := Lib.hid hRY
      have HEY := Lib.hid EY
      have HMY := Lib.hid hm
      have HbY := Lib.hid (Hb0.out.trans (HOY.out.below Hb0.out.size (fun k e => e ▸ HA.out)))
      clear f0 f1 f2 f3 f4 f5 f6 f7 f8 c0 c1 c2 c3 c4 c5 c6 c7 c8 lt cR lR hRY ho hm
      obtain ⟨lt, c0, c1, c2, c3, c4, c5, c6, c7, c8⟩ := EY
      have cR := HRY.out.cR
      have lR := HRY.out.lR
      obtain ⟨b0, hbb⟩ : ∃ b, b = rgt (d + 1) p (Ex.mk op1 v1 rel1 col1 n1 s1 l1) := ⟨_, rfl⟩
      rw [← hbb] at he
      have HBB0 := Lib.hid hbb.symm
      clear hbb
      subst he
      cases b0 with
      | false =>
        have HQ2 := Lib.hid (show rgt d m (.mk op v rel col n s [.mk op1 v1 rel1 col1 n1 s1 l1, y1]) = false by rw [HQ.out, rgtL_cons, HBB0.out, Bool.false_and])
        go_wp2_with fail
        refine bodyPost_ret (v := .bool false) (by simp [results, Tryd.results36, go_sem]) rfl ⟨p1, by rw [HQ2.out], HRY.out, (fun h => by rw [HQ2.out] at h; cases h), HOY.out⟩
      | true =>
        have HQ1 := Lib.hid (show rgt d m (.mk op v rel col n s [.mk op1 v1 rel1 col1 n1 s1 l1, y1]) = (rgt (d + 1) p1 y1 && true) by
          have h1 := HMY.out HBB0.out
          rw [HQ.out, rgtL_cons, HBB0.out, Bool.true_and, rgtL_cons, show p - (Ex.mk op1 v1 rel1 col1 n1 s1 l1).count = p1 by omega, rgtL_nil _ _ (by have := HD.out; omega)])
        have hl_ := ExL.at_ (j := 1) (x := y1) HL.out rfl
        obtain ⟨g1, off1, cs1, hq1, hg1, hx1, hcell⟩ := hl_
        obtain ⟨rfl, rfl⟩ : g1 = g0 ∧ off1 = off0 := by cases hq1; exact ⟨rfl, rfl⟩
        clear hq1
        have HX1 := Lib.hid hx1
        obtain ⟨op2, v2, rel2, col2, n2, s2, l2⟩ := y1
        rw [ExM.iff] at hx1
        obtain ⟨-, qq1, cc1, rfl, -, -⟩ := hx1
        have f0 := (HbY.out.cell (p := ⟨_, _, none⟩) hg1).trans (hcell 0 _ rfl)
        have f1 := (HbY.out.cell (p := ⟨_, _, none⟩) hg1).trans (hcell 1 _ rfl)
        have f2 := (HbY.out.cell (p := ⟨_, _, none⟩) hg1).trans (hcell 2 _ rfl)
        have f3 := (HbY.out.cell (p := ⟨_, _, none⟩) hg1).trans (hcell 3 _ rfl)
        have f4 := (HbY.out.cell (p := ⟨_, _, none⟩) hg1).trans (hcell 4 _ rfl)
        have f5 := (HbY.out.cell (p := ⟨_, _, none⟩) hg1).trans (hcell 5 _ rfl)
        have f6 := (HbY.out.cell (p := ⟨_, _, none⟩) hg1).trans (hcell 6 _ rfl)
        have f7 := (HbY.out.cell (p := ⟨_, _, none⟩) hg1).trans (hcell 7 _ rfl)
        have f8 := (HbY.out.cell (p := ⟨_, _, none⟩) hg1).trans (hcell 8 _ rfl)
        have hgU1 := Nat.lt_of_lt_of_le hg1 HbY.out.size
        clear hcell
        go_wp2_with fail
        rw [rounds_succ]
        go_wp2_with fail
        refine (HI.out (Ex.mk op2 v2 rel2 col2 n2 s2 l2) (by simp) w0 _ _ A R (d + 1) p1 _ HX1.out (ext_alloc_ HbY.out) HA.out (HRY.out.on (ext_alloc (ext_refl _) _)) (by push_cast; rfl) (by have := HD.out; omega)).mono ?_
        rintro e Z ⟨p2, he, hRY, hm, ho⟩
        have HOZ := Lib.hid (HOY.out.trans ((Out.of (ext_alloc (ext_refl Y) _)).trans ho))
        have EY := (HEY.out.on (ext_alloc (ext_refl _) _)).out ho (fun e => hAg e.symm)
        have HRZ := Lib.hid hRY
        have HEZ := Lib.hid EY
        have HMZ := Lib.hid hm
        have HbZ := Lib.hid (Hb0.out.trans (HOZ.out.below Hb0.out.size (fun k e => e ▸ HA.out)))
        clear f0 f1 f2 f3 f4 f5 f6 f7 f8 c0 c1 c2 c3 c4 c5 c6 c7 c8 lt cR lR hRY ho hm
        obtain ⟨lt, c0, c1, c2, c3, c4, c5, c6, c7, c8⟩ := EY
        have cR := HRZ.out.cR
        have lR := HRZ.out.lR
        obtain ⟨b1, hbb⟩ : ∃ b, b = rgt (d + 1) p1 (Ex.mk op2 v2 rel2 col2 n2 s2 l2) := ⟨_, rfl⟩
        rw [← hbb] at he
        have HBB1 := Lib.hid hbb.symm
        clear hbb
        subst he
        cases b1 with
        | false =>
          have HQ2 := Lib.hid (show rgt d m (.mk op v rel col n s [.mk op1 v1 rel1 col1 n1 s1 l1, .mk op2 v2 rel2 col2 n2 s2 l2]) = false by rw [HQ1.out, HBB1.out]; rfl)
          go_wp2_with fail
          refine bodyPost_ret (v := .bool false) (by simp [results, Tryd.results36, go_sem]) rfl ⟨p2, by rw [HQ2.out], HRZ.out, (fun h => by rw [HQ2.out] at h; cases h), HOZ.out⟩
        | true =>
          have HQ2 := Lib.hid (show rgt d m (.mk op v rel col n s [.mk op1 v1 rel1 col1 n1 s1 l1, .mk op2 v2 rel2 col2 n2 s2 l2]) = true by rw [HQ1.out, HBB1.out]; rfl)
          have HC := Lib.hid (show p2 + (Ex.mk op v rel col n s [.mk op1 v1 rel1 col1 n1 s1 l1, .mk op2 v2 rel2 col2 n2 s2 l2]).count = m by have h0 := HMY.out HBB0.out; have h1 := HMZ.out HBB1.out; have h2 := HP.out; rw [Ex.count, countL, countL, countL]; omega)
          go_wp2_with fail
          rw [rounds_succ]
          go_wp2_with fail
          refine bodyPost_ret (v := .bool true) (by simp [results, Tryd.results36, go_sem]) rfl ⟨p2, by rw [HQ2.out], HRZ.out, (fun _ => HC.out), HOZ.out⟩
    · have h1 := HLEN.out
      have h2 := HT.out
      simp only [List.length_cons] at h1
      omega
open Go.RowKit
set_option maxRecDepth 100000
theorem deepL_of_mem : ∀ {l : List Ex} {y : Ex}, y ∈ l → y.deep ≤ deepL l
  | x :: l, y, h => by
    rw [deepL]
    rcases List.mem_cons.1 h with rfl | h
    · omega
    · have := deepL_of_mem h
      omega
theorem rightC_any : ∀ (k : Nat) (x : Ex), x.deep ≤ k → RightC x
  | 0, x, h => absurd (deep_pos x) (by omega)
  | k + 1, .mk op v rel col n s l, h => rightC_mk op v rel col n s l fun y hy => rightC_any k y (by rw [Ex.deep] at h; have := deepL_of_mem hy; omega)
theorem rgt_right (x : Ex) : rgt 1 200 x = rightE x := by
  unfold rgt rightE sizesE
  rw [Bool.eq_iff_iff]
  simp only [Bool.and_eq_true, decide_eq_true_eq]
  constructor
  · rintro ⟨⟨h1, h2⟩, h3⟩
    rw [if_pos ⟨h1, by omega, h3⟩]; rfl
  · intro h
    split at h
    · rename_i h1
      exact ⟨⟨h1.1, by omega⟩, h1.2.2⟩
    · cases h
set_option maxHeartbeats 4000000 in
theorem dright_any (x : Ex) (cs : List Value) (w : World) (hx : ExM w x cs) (hG : GE w) : Calls Tryd.prog 20 #[.agg cs.toArray] w fun e w' => e = .returned (.bool (rightE x)) ∧ Below w.heap.size w w' := by
  have HX := Lib.hid hx
  have HC := Lib.hid (rightC_any _ x (Nat.le_refl _))
  have HG := Lib.hid hG
  obtain ⟨op, v, rel, col, n, s, l⟩ := x
  rw [ExM.iff] at hx
  obtain ⟨-, q, c, rfl, -, -⟩ := hx
  obtain ⟨len, hlen⟩ : ∃ len, len = l.length := ⟨_, rfl⟩
  rw [← hlen] at HX ⊢
  clear hlen hG
  have E0 := EB.new w op v rel col n s q len c 26
  have B0 : Below w.heap.size w (w.alloc (.cells (exCells op v rel col n s q len c).toArray 26)) := ext_alloc (ext_refl _) _
  obtain ⟨W, hW⟩ : ∃ W, W = w.alloc (.cells (exCells op v rel col n s q len c).toArray 26) := ⟨_, rfl⟩
  rw [← hW] at E0 B0
  go_enter Tryd.func20, Tryd.ntmps20
  go_upto_region 1 with fail
  rw [← hW]
  clear hW
  obtain ⟨g, hg⟩ : ∃ g, g = w.heap.size := ⟨_, rfl⟩
  have HB := Lib.hid B0
  have HGW := Lib.hid hg
  rw [← hg] at E0
  rw [← hg]
  clear B0 hg
  have HE := Lib.hid E0
  obtain ⟨lt, c0, c1, c2, c3, c4, c5, c6, c7, c8⟩ := E0
  have HW := HG.out.on HB.out
  go_upto_region 4 with fail
  obtain ⟨A, hA⟩ : ∃ A, A = W.heap.size := ⟨_, rfl⟩
  obtain ⟨V, hV⟩ : ∃ V, V = (W.alloc (.cells #[.int .i64 200] 3)).alloc (.cells #[.func (.func 36) #[] #[.pointer (some ⟨W.heap.size, 0, none⟩), .pointer (some ⟨W.heap.size + 1, 0, none⟩)]] 70) := ⟨_, rfl⟩
  rw [← hV]
  have B1 : Below W.heap.size W V := by rw [hV]; (repeat (first | exact ext_refl _ | assumption | (refine ext_alloc ?_ _) | (refine ext_drewN ?_ _) | refine ext_drew ?_ | (refine ext_set (by first | (simp; done) | (simp; omega)) _ ?_) | (refine ext_trans ?_ (by assumption))))
  have EV := HE.out.on B1
  have hR : RC V A (A + 1) 200 := by
    refine ⟨?_, ?_, ?_, ?_, ?_, by omega, by have := HW.size; omega, Nat.le_refl _, HW.on B1⟩
    · rw [hV, hA]; simp [go_sem]
    · intro o; rw [hV, hA]; simp [go_sem]
    · rw [hV, hA]; simp [go_sem]
    · rw [hV, hA]; simp
    · rw [hV, hA]; simp
  have HBV := Lib.hid (HB.out.trans (B1.mono HB.out.size))
  have hAw : w.heap.size ≤ A := by rw [hA]; exact HB.out.size
  have HRV := Lib.hid hR
  have cR := hR.cR
  have lR := hR.lR
  rw [← hA]
  have HAw := Lib.hid hAw
  clear hV B1 hR HB HW hA hAw c0 c1 c2 c3 c4 c5 c6 c7 c8 lt
  obtain ⟨lt, c0, c1, c2, c3, c4, c5, c6, c7, c8⟩ := EV
  go_wp2_with fail
  refine (HC.out w V _ A (A + 1) 1 200 1 HX.out HBV.out HAw.out HRV.out rfl (by omega)).mono ?_
  rintro e Y ⟨m, he, hRY, -, ho⟩
  rw [rgt_right] at he
  have HBY := Lib.hid (HBV.out.trans (ho.below HBV.out.size (fun _ e => e ▸ HAw.out)))
  obtain ⟨b, hb⟩ : ∃ b, b = rightE (Ex.mk op v rel col n s l) := ⟨_, rfl⟩
  rw [← hb] at he
  have HQ := Lib.hid hb
  clear hb hRY ho c0 c1 c2 c3 c4 c5 c6 c7 c8 lt cR lR
  subst he
  go_wp2_with fail
  refine bodyPost_ret (v := .bool b) (by simp [results, Tryd.results20, go_sem]) rfl ⟨by rw [HQ.out], HBY.out⟩
open Go.RowKit
structure After (G : World) where
  W : World
  below : Below G.heap.size G W
theorem After.some (G : World) : Nonempty (After G) := ⟨⟨G, Below.refl _ _⟩⟩
theorem After.cell {G : World} (x : After G) (b o : Nat) (h : b < G.heap.size) : x.W.cell? ⟨b, o, none⟩ = G.cell? ⟨b, o, none⟩ := x.below.cell (p := ⟨b, o, none⟩) h
theorem wp_region_after {P : Program} {id : Nat} {Q : Exit → Act → World → Prop} {a : Act} {w : World} {l : List Oper} (hm : P.follows .mixedOrders = true) (hB : Region.lexB .any l.toArray = true)
    (h : wpQuiet P l.toArray (fun w' => ∃ x : After w, w' = x.W) (fun a' => ∀ w', (∃ x : After w, w' = x.W) → Q .normal a' w') l a) : (Code.region id l.toArray true).wp P Q a w :=
  wp_region_quiet (C := fun w' => ∃ x : After w, w' = x.W) hm hB ⟨⟨w.drew, (Below.refl _ _).drew⟩, rfl⟩ (by simpa using h)
theorem calls_after {P : Program} {f : FuncId} {args : Array Value} {G : World} {x : After G} {v : Value} (h : Calls P f args x.W fun e w' => e = .returned v ∧ Below x.W.heap.size x.W w') :
    Calls P f args x.W fun e w'' => e = .returned v ∧ ∃ y : After G, w'' = y.W :=
  h.mono fun _ w' ⟨he, hb⟩ => ⟨he, ⟨w', x.below.trans (hb.mono x.below.size)⟩, rfl⟩
abbrev bsB (l : Bs) : ByteArray := ⟨l.toArray⟩
theorem bsB_add (a b : Bs) : bsB a ++ bsB b = bsB (a ++ b) := by
  apply ByteArray.ext
  rw [ByteArray.data_append]
  apply Array.ext'
  simp
end Go.Proofs.YtklgoajgchfmeaaDoor
