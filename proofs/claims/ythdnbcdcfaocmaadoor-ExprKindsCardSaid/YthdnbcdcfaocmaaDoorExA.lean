/- The reference: what an operation wants; whether an expression is right. -/
import Derived.Test.YthdnbcdcfaocmaaDoorExM
import Derived.Test.YthdnbcdcfaocmaaDoorStN
import Derived.Test.YthdnbcdcfaocmaaDoorValQ
namespace Go.Proofs.YthdnbcdcfaocmaaDoor
open Go.RowKit
set_option maxRecDepth 100000

theorem roperands_any (op : Int) (w : World) : Calls Tryd.prog 72 #[.int .i64 op] w fun e w' => e = .returned (.int .i64 (wantsOf op)) ∧ w' = w := by
  by_cases h1 : op < 1
  · have e : wantsOf op = -1 := by unfold wantsOf; rw [if_pos (.inl h1)]
    rw [e]
    clear e
    go_enter Tryd.func72, Tryd.ntmps72
    go_wp2
    go_ret
    exact ⟨rfl, rfl⟩
  · by_cases h2 : op > 18
    · have e : wantsOf op = -1 := by unfold wantsOf; rw [if_pos (.inr h2)]
      rw [e]
      clear e
      go_enter Tryd.func72, Tryd.ntmps72
      go_wp2
      go_ret
      exact ⟨rfl, rfl⟩
    · by_cases h3 : op ≤ 3
      · have e : wantsOf op = 0 := by unfold wantsOf; rw [if_neg (by omega), if_pos h3]
        rw [e]
        clear e
        go_enter Tryd.func72, Tryd.ntmps72
        go_wp2
        go_ret
        exact ⟨rfl, rfl⟩
      · by_cases h4 : op = 8
        · have e : wantsOf op = 1 := by unfold wantsOf; rw [if_neg (by omega), if_neg h3, if_pos (.inl h4)]
          rw [e]
          have m : (op == 8) = true := by rw [beq_iff_eq]; exact h4
          clear e h4
          go_enter Tryd.func72, Tryd.ntmps72
          go_wp2
          go_ret
          exact ⟨rfl, rfl⟩
        · have m : (op == 8) = false := by rw [beq_eq_false_iff_ne]; exact h4
          by_cases h5 : op = 17
          · have e : wantsOf op = 1 := by unfold wantsOf; rw [if_neg (by omega), if_neg h3, if_pos (.inr (.inl h5))]
            rw [e]
            have m5 : (op == 17) = true := by rw [beq_iff_eq]; exact h5
            clear e h4 h5
            go_enter Tryd.func72, Tryd.ntmps72
            go_wp2
            go_ret
            exact ⟨rfl, rfl⟩
          · have m5 : (op == 17) = false := by rw [beq_eq_false_iff_ne]; exact h5
            by_cases h6 : op = 18
            · have e : wantsOf op = 1 := by unfold wantsOf; rw [if_neg (by omega), if_neg h3, if_pos (.inr (.inr h6))]
              rw [e]
              have m6 : (op == 18) = true := by rw [beq_iff_eq]; exact h6
              clear e h4 h5 h6
              go_enter Tryd.func72, Tryd.ntmps72
              go_wp2
              go_ret
              exact ⟨rfl, rfl⟩
            · have e : wantsOf op = 2 := by unfold wantsOf; rw [if_neg (by omega), if_neg h3, if_neg (by omega)]
              rw [e]
              have m6 : (op == 18) = false := by rw [beq_eq_false_iff_ne]; exact h6
              clear e h4 h5 h6
              go_enter Tryd.func72, Tryd.ntmps72
              go_wp2
              go_ret
              exact ⟨rfl, rfl⟩

/-- The reference's answer to how deep and how many. -/
def SizesIs (most : Nat) (x : Ex) (e : Ending) : Prop := e = .returned (match sizesE most x with
  | some (d, n) => .tuple #[.int .i64 (d : Int), .int .i64 (n : Int), .bool true]
  | none => .tuple #[.int .i64 0, .int .i64 0, .bool false])

/-- An expression's own cells, boxed, in block g. -/
structure EB (W : World) (g : Nat) (op : Int) (v : Val) (rel col n : Int) (s : ByteArray) (q : Option Addr) (len c : Nat) : Prop where
  lt : g < W.heap.size
  c0 : W.cell? ⟨g, 0, none⟩ = some (.int .i64 op)
  c1 : W.cell? ⟨g, 1, none⟩ = some (.int .i64 v.k)
  c2 : W.cell? ⟨g, 2, none⟩ = some (.int .i64 v.n)
  c3 : W.cell? ⟨g, 3, none⟩ = some (.string v.s)
  c4 : W.cell? ⟨g, 4, none⟩ = some (.int .i64 rel)
  c5 : W.cell? ⟨g, 5, none⟩ = some (.int .i64 col)
  c6 : W.cell? ⟨g, 6, none⟩ = some (.int .i64 n)
  c7 : W.cell? ⟨g, 7, none⟩ = some (.string s)
  c8 : W.cell? ⟨g, 8, none⟩ = some (.slice q len c)
theorem EB.on {W W' : World} {g : Nat} {op : Int} {v : Val} {rel col n : Int} {s : ByteArray} {q : Option Addr} {len c : Nat} (h : EB W g op v rel col n s q len c) (hb : Below W.heap.size W W') : EB W' g op v rel col n s q len c :=
  ⟨Nat.lt_of_lt_of_le h.lt hb.size, (hb.cell (p := ⟨_, _, none⟩) h.lt).trans h.c0, (hb.cell (p := ⟨_, _, none⟩) h.lt).trans h.c1, (hb.cell (p := ⟨_, _, none⟩) h.lt).trans h.c2, (hb.cell (p := ⟨_, _, none⟩) h.lt).trans h.c3, (hb.cell (p := ⟨_, _, none⟩) h.lt).trans h.c4,
    (hb.cell (p := ⟨_, _, none⟩) h.lt).trans h.c5, (hb.cell (p := ⟨_, _, none⟩) h.lt).trans h.c6, (hb.cell (p := ⟨_, _, none⟩) h.lt).trans h.c7, (hb.cell (p := ⟨_, _, none⟩) h.lt).trans h.c8⟩
theorem EB.new (w : World) (op : Int) (v : Val) (rel col n : Int) (s : ByteArray) (q : Option Addr) (len c : Nat) (T : TypeId) : EB (w.alloc (.cells (exCells op v rel col n s q len c).toArray T)) w.heap.size op v rel col n s q len c :=
  ⟨by simp, by simp [go_sem], by simp [go_sem], by simp [go_sem], by simp [go_sem], by simp [go_sem], by simp [go_sem], by simp [go_sem], by simp [go_sem], by simp [go_sem]⟩

theorem sizes_head {most : Nat} {op : Int} {v : Val} {rel col n : Int} {s : ByteArray} {l : List Ex} (h : headOk op v rel col n s l.length = false) : sizesE most (.mk op v rel col n s l) = none := by
  unfold sizesE
  rw [if_neg]
  rw [Ex.okAll, h]
  simp
theorem SizesIs.no {most : Nat} {x : Ex} (h : sizesE most x = none) : SizesIs most x (.returned (.tuple #[.int .i64 0, .int .i64 0, .bool false])) := by unfold SizesIs; rw [h]

theorem neq_zero (v : Val) (W : World) : (binOp .neq 23 (.agg #[.int .i64 v.k, .int .i64 v.n, .string v.s]) (.agg #[.int .i64 0, .int .i64 0, .string ⟨#[]⟩])).run Tryd.prog W = .ok (.bool (!isZeroV v)) W := (Tryd.neqVal5 v ⟨0, 0, ⟨#[]⟩⟩ W).trans (by unfold isZeroV; simp)

set_option maxHeartbeats 8000000 in
theorem rsizes_head (m : Nat) (op : Int) (v : Val) (rel col n : Int) (s : ByteArray) (l : List Ex) (q : Option Addr) (c : Nat) (w : World) (hh : headOk op v rel col n s l.length = false ∨ m = 0) :
    Calls Tryd.prog 45 #[.agg (exCells op v rel col n s q l.length c).toArray, .int .i64 (m : Int)] w fun e w' => SizesIs m (.mk op v rel col n s l) e ∧ Below w.heap.size w w' := by
  have HS : SizesIs m (.mk op v rel col n s l) (.returned (.tuple #[.int .i64 0, .int .i64 0, .bool false])) := SizesIs.no (by
    rcases hh with h | h
    · exact sizes_head h
    · unfold sizesE
      rw [if_neg]
      have := deep_pos (.mk op v rel col n s l)
      rw [h]
      omega)
  have HS := Lib.hid HS
  obtain ⟨len, hlen⟩ : ∃ len, len = l.length := ⟨_, rfl⟩
  rw [← hlen] at hh ⊢
  clear hlen
  have E0 := EB.new w op v rel col n s q len c 26
  have B0 : Below w.heap.size w (w.alloc (.cells (exCells op v rel col n s q len c).toArray 26)) := ext_alloc (ext_refl _) _
  obtain ⟨W, hW⟩ : ∃ W, W = w.alloc (.cells (exCells op v rel col n s q len c).toArray 26) := ⟨_, rfl⟩
  rw [← hW] at E0 B0
  have HH := Lib.hid hh
  clear hh
  go_enter Tryd.func45, Tryd.ntmps45
  go_wp2_with fail
  refine (roperands_any op _).mono ?_
  rintro e w9 ⟨rfl, hw9⟩
  rw [hw9, ← hW]
  clear hw9 hW
  obtain ⟨lt, c0, c1, c2, c3, c4, c5, c6, c7, c8⟩ := id E0
  obtain ⟨g, hg⟩ : ∃ g, g = w.heap.size := ⟨_, rfl⟩
  have HB := Lib.hid B0
  rw [← hg] at lt c0 c1 c2 c3 c4 c5 c6 c7 c8 E0
  rw [← hg]
  have HE0 := Lib.hid E0
  clear B0 hg E0
  by_cases h1 : ¬ (0 ≤ wantsOf op)
  · have d1 : decide (wantsOf op < 0) = true := decide_eq_true (by omega)
    clear h1
    go_wp2_with fail
    refine bodyPost_ret (v := .tuple #[.int .i64 0, .int .i64 0, .bool false]) (by simp [results, Tryd.results45, go_sem]) rfl ⟨HS.out, HB.out⟩
  replace h1 : 0 ≤ wantsOf op := Classical.not_not.1 h1
  have d1 : decide (wantsOf op < 0) = false := decide_eq_false (by omega)
  by_cases h2 : ¬ (wantsOf op = (len : Int))
  · have m2 : ((len : Int) == wantsOf op) = false := by rw [beq_eq_false_iff_ne]; exact fun h => h2 h.symm
    have m2' : ((len : Int) != wantsOf op) = true := by rw [bne, m2]; rfl
    clear h2
    go_wp2_with fail
    refine bodyPost_ret (v := .tuple #[.int .i64 0, .int .i64 0, .bool false]) (by simp [results, Tryd.results45, go_sem]) rfl ⟨HS.out, HB.out⟩
  replace h2 : wantsOf op = (len : Int) := Classical.not_not.1 h2
  have m2 : ((len : Int) == wantsOf op) = true := by rw [beq_iff_eq]; exact h2.symm
  have m2' : ((len : Int) != wantsOf op) = false := by rw [bne, m2]; rfl
  have H2 := Lib.hid h2
  clear h2
  by_cases h3 : ¬ (s.toList = [])
  · have m3 : (s.toList == ([] : List UInt8)) = false := by rw [beq_eq_false_iff_ne]; exact h3
    have m3' : (s.toList != ([] : List UInt8)) = true := by rw [bne, m3]; rfl
    clear h3
    go_wp2_with fail
    refine bodyPost_ret (v := .tuple #[.int .i64 0, .int .i64 0, .bool false]) (by simp [results, Tryd.results45, go_sem]) rfl ⟨HS.out, HB.out⟩
  replace h3 : s.toList = [] := Classical.not_not.1 h3
  have m3 : (s.toList == ([] : List UInt8)) = true := by rw [beq_iff_eq]; exact h3
  have m3' : (s.toList != ([] : List UInt8)) = false := by rw [bne, m3]; rfl
  have H3 := Lib.hid h3
  clear h3
  by_cases h4 : ¬ (¬ m = 0)
  · have m4 : ((m : Int) == 0) = true := by rw [beq_iff_eq]; omega
    clear h4
    go_wp2_with fail
    refine bodyPost_ret (v := .tuple #[.int .i64 0, .int .i64 0, .bool false]) (by simp [results, Tryd.results45, go_sem]) rfl ⟨HS.out, HB.out⟩
  replace h4 : ¬ m = 0 := Classical.not_not.1 h4
  have m4 : ((m : Int) == 0) = false := by rw [beq_eq_false_iff_ne]; omega
  go_wp2_with fail
  refine (rright_any v W).mono ?_
  rintro e X ⟨rfl, hbX⟩
  have HB2 := Lib.hid (HB.out.trans (hbX.mono HB.out.size))
  have EX := HE0.out.on hbX
  clear lt c0 c1 c2 c3 c4 c5 c6 c7 c8 hbX HB HE0
  have HB := HB2
  clear HB2
  obtain ⟨lt, c0, c1, c2, c3, c4, c5, c6, c7, c8⟩ := EX
  have hn := neq_zero v
  by_cases h5 : ¬ (v.right = true)
  · replace h5 : v.right = false := by simpa using h5
    go_wp2_with fail
    refine bodyPost_ret (v := .tuple #[.int .i64 0, .int .i64 0, .bool false]) (by simp [results, Tryd.results45, go_sem]) rfl ⟨HS.out, HB.out⟩
  replace h5 : v.right = true := Classical.not_not.1 h5
  skip
  -- HEAD
  go_upto_region 5 with fail
  by_cases eop1 : op = 1
  · have qop1 : (op == 1) = true := by rw [beq_iff_eq]; exact eop1
    have rop1 : (op != 1) = false := by rw [bne, qop1]; rfl
    have eop2 : ¬ op = 2 := by omega
    have qop2 : (op == 2) = false := by rw [beq_eq_false_iff_ne]; exact eop2
    have rop2 : (op != 2) = true := by rw [bne, qop2]; rfl
    have eop3 : ¬ op = 3 := by omega
    have qop3 : (op == 3) = false := by rw [beq_eq_false_iff_ne]; exact eop3
    have rop3 : (op != 3) = true := by rw [bne, qop3]; rfl
    have HO := Lib.hid eop1
    clear eop1
    by_cases erel0 : ¬ rel = 0
    · have qrel0 : (rel == 0) = false := by rw [beq_eq_false_iff_ne]; exact erel0
      have rrel0 : (rel != 0) = true := by rw [bne, qrel0]; rfl
      go_wp2_with fail
      refine bodyPost_ret (v := .tuple #[.int .i64 0, .int .i64 0, .bool false]) (by simp [results, Tryd.results45, go_sem]) rfl ⟨HS.out, HB.out⟩
    replace erel0 : rel = 0 := Classical.not_not.1 erel0
    have qrel0 : (rel == 0) = true := by rw [beq_iff_eq]; exact erel0
    have rrel0 : (rel != 0) = false := by rw [bne, qrel0]; rfl
    have Hrel0 := Lib.hid erel0
    clear erel0
    by_cases ecol0 : ¬ col = 0
    · have qcol0 : (col == 0) = false := by rw [beq_eq_false_iff_ne]; exact ecol0
      have rcol0 : (col != 0) = true := by rw [bne, qcol0]; rfl
      go_wp2_with fail
      refine bodyPost_ret (v := .tuple #[.int .i64 0, .int .i64 0, .bool false]) (by simp [results, Tryd.results45, go_sem]) rfl ⟨HS.out, HB.out⟩
    replace ecol0 : col = 0 := Classical.not_not.1 ecol0
    have qcol0 : (col == 0) = true := by rw [beq_iff_eq]; exact ecol0
    have rcol0 : (col != 0) = false := by rw [bne, qcol0]; rfl
    have Hcol0 := Lib.hid ecol0
    clear ecol0
    by_cases en0 : ¬ n = 0
    · have qn0 : (n == 0) = false := by rw [beq_eq_false_iff_ne]; exact en0
      have rn0 : (n != 0) = true := by rw [bne, qn0]; rfl
      go_wp2_with fail
      refine bodyPost_ret (v := .tuple #[.int .i64 0, .int .i64 0, .bool false]) (by simp [results, Tryd.results45, go_sem]) rfl ⟨HS.out, HB.out⟩
    replace en0 : n = 0 := Classical.not_not.1 en0
    have qn0 : (n == 0) = true := by rw [beq_iff_eq]; exact en0
    have rn0 : (n != 0) = false := by rw [bne, qn0]; rfl
    have Hn0 := Lib.hid en0
    clear en0
    exfalso
    have erel0 := Hrel0.out
    have ecol0 := Hcol0.out
    have en0 := Hn0.out
    have eop1 := HO.out
    rcases HH.out with hf | hf
    · unfold headOk at hf
      have hw : (wantsOf op == (len : Int)) = true := by rw [beq_iff_eq]; exact H2.out
      have hsz : (s.toList == ([] : List UInt8)) = true := by rw [beq_iff_eq]; exact H3.out
      rw [hw, hsz, h5] at hf
      simp_all <;> omega
    · exact h4 hf
  · have qop1 : (op == 1) = false := by rw [beq_eq_false_iff_ne]; exact eop1
    have rop1 : (op != 1) = true := by rw [bne, qop1]; rfl
    by_cases hz : ¬ isZeroV v = true
    · replace hz : isZeroV v = false := by simpa using hz
      rw [hz] at hn
      go_wp2_with fail
      refine bodyPost_ret (v := .tuple #[.int .i64 0, .int .i64 0, .bool false]) (by simp [results, Tryd.results45, go_sem]) rfl ⟨HS.out, HB.out⟩
    replace hz : isZeroV v = true := Classical.not_not.1 hz
    rw [hz] at hn
    by_cases eop2 : op = 2
    · have qop2 : (op == 2) = true := by rw [beq_iff_eq]; exact eop2
      have rop2 : (op != 2) = false := by rw [bne, qop2]; rfl
      have eop3 : ¬ op = 3 := by omega
      have qop3 : (op == 3) = false := by rw [beq_eq_false_iff_ne]; exact eop3
      have rop3 : (op != 3) = true := by rw [bne, qop3]; rfl
      have HO := Lib.hid eop2
      clear eop2
      by_cases hd1a : rel < 0
      · have d1a : decide (rel < 0) = true := decide_eq_true hd1a
        go_wp2_with fail
        refine bodyPost_ret (v := .tuple #[.int .i64 0, .int .i64 0, .bool false]) (by simp [results, Tryd.results45, go_sem]) rfl ⟨HS.out, HB.out⟩
      have d1a : decide (rel < 0) = false := decide_eq_false hd1a
      by_cases hd2a : rel > 15
      · have d2a : decide (rel > 15) = true := decide_eq_true hd2a
        go_wp2_with fail
        refine bodyPost_ret (v := .tuple #[.int .i64 0, .int .i64 0, .bool false]) (by simp [results, Tryd.results45, go_sem]) rfl ⟨HS.out, HB.out⟩
      have d2a : decide (rel > 15) = false := decide_eq_false hd2a
      by_cases hd3a : col < 0
      · have d3a : decide (col < 0) = true := decide_eq_true hd3a
        go_wp2_with fail
        refine bodyPost_ret (v := .tuple #[.int .i64 0, .int .i64 0, .bool false]) (by simp [results, Tryd.results45, go_sem]) rfl ⟨HS.out, HB.out⟩
      have d3a : decide (col < 0) = false := decide_eq_false hd3a
      by_cases hd4a : col > 5
      · have d4a : decide (col > 5) = true := decide_eq_true hd4a
        go_wp2_with fail
        refine bodyPost_ret (v := .tuple #[.int .i64 0, .int .i64 0, .bool false]) (by simp [results, Tryd.results45, go_sem]) rfl ⟨HS.out, HB.out⟩
      have d4a : decide (col > 5) = false := decide_eq_false hd4a
      by_cases en0 : ¬ n = 0
      · have qn0 : (n == 0) = false := by rw [beq_eq_false_iff_ne]; exact en0
        have rn0 : (n != 0) = true := by rw [bne, qn0]; rfl
        go_wp2_with fail
        refine bodyPost_ret (v := .tuple #[.int .i64 0, .int .i64 0, .bool false]) (by simp [results, Tryd.results45, go_sem]) rfl ⟨HS.out, HB.out⟩
      replace en0 : n = 0 := Classical.not_not.1 en0
      have qn0 : (n == 0) = true := by rw [beq_iff_eq]; exact en0
      have rn0 : (n != 0) = false := by rw [bne, qn0]; rfl
      have Hn0 := Lib.hid en0
      clear en0
      exfalso
      have en0 := Hn0.out
      have eop2 := HO.out
      rcases HH.out with hf | hf
      · unfold headOk at hf
        have hw : (wantsOf op == (len : Int)) = true := by rw [beq_iff_eq]; exact H2.out
        have hsz : (s.toList == ([] : List UInt8)) = true := by rw [beq_iff_eq]; exact H3.out
        rw [hw, hsz, h5] at hf
        simp_all <;> omega
      · exact h4 hf
    · have qop2 : (op == 2) = false := by rw [beq_eq_false_iff_ne]; exact eop2
      have rop2 : (op != 2) = true := by rw [bne, qop2]; rfl
      by_cases eop3 : op = 3
      · have qop3 : (op == 3) = true := by rw [beq_iff_eq]; exact eop3
        have rop3 : (op != 3) = false := by rw [bne, qop3]; rfl
        have HO := Lib.hid eop3
        clear eop3
        by_cases erel0 : ¬ rel = 0
        · have qrel0 : (rel == 0) = false := by rw [beq_eq_false_iff_ne]; exact erel0
          have rrel0 : (rel != 0) = true := by rw [bne, qrel0]; rfl
          go_wp2_with fail
          refine bodyPost_ret (v := .tuple #[.int .i64 0, .int .i64 0, .bool false]) (by simp [results, Tryd.results45, go_sem]) rfl ⟨HS.out, HB.out⟩
        replace erel0 : rel = 0 := Classical.not_not.1 erel0
        have qrel0 : (rel == 0) = true := by rw [beq_iff_eq]; exact erel0
        have rrel0 : (rel != 0) = false := by rw [bne, qrel0]; rfl
        have Hrel0 := Lib.hid erel0
        clear erel0
        by_cases ecol0 : ¬ col = 0
        · have qcol0 : (col == 0) = false := by rw [beq_eq_false_iff_ne]; exact ecol0
          have rcol0 : (col != 0) = true := by rw [bne, qcol0]; rfl
          go_wp2_with fail
          refine bodyPost_ret (v := .tuple #[.int .i64 0, .int .i64 0, .bool false]) (by simp [results, Tryd.results45, go_sem]) rfl ⟨HS.out, HB.out⟩
        replace ecol0 : col = 0 := Classical.not_not.1 ecol0
        have qcol0 : (col == 0) = true := by rw [beq_iff_eq]; exact ecol0
        have rcol0 : (col != 0) = false := by rw [bne, qcol0]; rfl
        have Hcol0 := Lib.hid ecol0
        clear ecol0
        by_cases hd5a : n < 1
        · have d5a : decide (n < 1) = true := decide_eq_true hd5a
          go_wp2_with fail
          refine bodyPost_ret (v := .tuple #[.int .i64 0, .int .i64 0, .bool false]) (by simp [results, Tryd.results45, go_sem]) rfl ⟨HS.out, HB.out⟩
        have d5a : decide (n < 1) = false := decide_eq_false hd5a
        by_cases hd6a : n > 4
        · have d6a : decide (n > 4) = true := decide_eq_true hd6a
          go_wp2_with fail
          refine bodyPost_ret (v := .tuple #[.int .i64 0, .int .i64 0, .bool false]) (by simp [results, Tryd.results45, go_sem]) rfl ⟨HS.out, HB.out⟩
        have d6a : decide (n > 4) = false := decide_eq_false hd6a
        exfalso
        have erel0 := Hrel0.out
        have ecol0 := Hcol0.out
        have eop3 := HO.out
        rcases HH.out with hf | hf
        · unfold headOk at hf
          have hw : (wantsOf op == (len : Int)) = true := by rw [beq_iff_eq]; exact H2.out
          have hsz : (s.toList == ([] : List UInt8)) = true := by rw [beq_iff_eq]; exact H3.out
          rw [hw, hsz, h5] at hf
          simp_all <;> omega
        · exact h4 hf
      · have qop3 : (op == 3) = false := by rw [beq_eq_false_iff_ne]; exact eop3
        have rop3 : (op != 3) = true := by rw [bne, qop3]; rfl
        by_cases erel0 : ¬ rel = 0
        · have qrel0 : (rel == 0) = false := by rw [beq_eq_false_iff_ne]; exact erel0
          have rrel0 : (rel != 0) = true := by rw [bne, qrel0]; rfl
          go_wp2_with fail
          refine bodyPost_ret (v := .tuple #[.int .i64 0, .int .i64 0, .bool false]) (by simp [results, Tryd.results45, go_sem]) rfl ⟨HS.out, HB.out⟩
        replace erel0 : rel = 0 := Classical.not_not.1 erel0
        have qrel0 : (rel == 0) = true := by rw [beq_iff_eq]; exact erel0
        have rrel0 : (rel != 0) = false := by rw [bne, qrel0]; rfl
        have Hrel0 := Lib.hid erel0
        clear erel0
        by_cases ecol0 : ¬ col = 0
        · have qcol0 : (col == 0) = false := by rw [beq_eq_false_iff_ne]; exact ecol0
          have rcol0 : (col != 0) = true := by rw [bne, qcol0]; rfl
          go_wp2_with fail
          refine bodyPost_ret (v := .tuple #[.int .i64 0, .int .i64 0, .bool false]) (by simp [results, Tryd.results45, go_sem]) rfl ⟨HS.out, HB.out⟩
        replace ecol0 : col = 0 := Classical.not_not.1 ecol0
        have qcol0 : (col == 0) = true := by rw [beq_iff_eq]; exact ecol0
        have rcol0 : (col != 0) = false := by rw [bne, qcol0]; rfl
        have Hcol0 := Lib.hid ecol0
        clear ecol0
        by_cases en0 : ¬ n = 0
        · have qn0 : (n == 0) = false := by rw [beq_eq_false_iff_ne]; exact en0
          have rn0 : (n != 0) = true := by rw [bne, qn0]; rfl
          go_wp2_with fail
          refine bodyPost_ret (v := .tuple #[.int .i64 0, .int .i64 0, .bool false]) (by simp [results, Tryd.results45, go_sem]) rfl ⟨HS.out, HB.out⟩
        replace en0 : n = 0 := Classical.not_not.1 en0
        have qn0 : (n == 0) = true := by rw [beq_iff_eq]; exact en0
        have rn0 : (n != 0) = false := by rw [bne, qn0]; rfl
        have Hn0 := Lib.hid en0
        clear en0
        exfalso
        have erel0 := Hrel0.out
        have ecol0 := Hcol0.out
        have en0 := Hn0.out
        rcases HH.out with hf | hf
        · unfold headOk at hf
          have hw : (wantsOf op == (len : Int)) = true := by rw [beq_iff_eq]; exact H2.out
          have hsz : (s.toList == ([] : List UInt8)) = true := by rw [beq_iff_eq]; exact H3.out
          rw [hw, hsz, h5] at hf
          simp_all <;> omega
        · exact h4 hf

end Go.Proofs.YthdnbcdcfaocmaaDoor
