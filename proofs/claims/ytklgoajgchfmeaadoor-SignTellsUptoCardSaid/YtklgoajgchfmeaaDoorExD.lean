/- A part of the proof. -/
import Derived.Test.YtklgoajgchfmeaaDoorKc
import Derived.Handy
set_option linter.unusedVariables false
set_option linter.unusedSimpArgs false
namespace Go.Proofs.YtklgoajgchfmeaaDoor
open Go.RowKit
set_option maxRecDepth 100000
theorem roperands_any (op : Int) (w : World) : Calls Tryd.prog 53 #[.int .i64 op] w fun e w' => e = .returned (.int .i64 (wantsOf op)) ∧ w' = w := by
  by_cases h1 : op < 1
  · have e : wantsOf op = -1 := by unfold wantsOf; rw [if_pos (.inl h1)]
    rw [e]
    clear e
    go_enter Tryd.func53, Tryd.ntmps53
    go_wp2
    go_ret
    exact ⟨rfl, rfl⟩
  · by_cases h2 : op > 18
    · have e : wantsOf op = -1 := by unfold wantsOf; rw [if_pos (.inr h2)]
      rw [e]
      clear e
      go_enter Tryd.func53, Tryd.ntmps53
      go_wp2
      go_ret
      exact ⟨rfl, rfl⟩
    · by_cases h3 : op ≤ 3
      · have e : wantsOf op = 0 := by unfold wantsOf; rw [if_neg (by omega), if_pos h3]
        rw [e]
        clear e
        go_enter Tryd.func53, Tryd.ntmps53
        go_wp2
        go_ret
        exact ⟨rfl, rfl⟩
      · by_cases h4 : op = 8
        · have e : wantsOf op = 1 := by unfold wantsOf; rw [if_neg (by omega), if_neg h3, if_pos (.inl h4)]
          rw [e]
          have m : (op == 8) = true := by rw [beq_iff_eq]; exact h4
          clear e h4
          go_enter Tryd.func53, Tryd.ntmps53
          go_wp2
          go_ret
          exact ⟨rfl, rfl⟩
        · have m : (op == 8) = false := by rw [beq_eq_false_iff_ne]; exact h4
          by_cases h5 : op = 17
          · have e : wantsOf op = 1 := by unfold wantsOf; rw [if_neg (by omega), if_neg h3, if_pos (.inr (.inl h5))]
            rw [e]
            have m5 : (op == 17) = true := by rw [beq_iff_eq]; exact h5
            clear e h4 h5
            go_enter Tryd.func53, Tryd.ntmps53
            go_wp2
            go_ret
            exact ⟨rfl, rfl⟩
          · have m5 : (op == 17) = false := by rw [beq_eq_false_iff_ne]; exact h5
            by_cases h6 : op = 18
            · have e : wantsOf op = 1 := by unfold wantsOf; rw [if_neg (by omega), if_neg h3, if_pos (.inr (.inr h6))]
              rw [e]
              have m6 : (op == 18) = true := by rw [beq_iff_eq]; exact h6
              clear e h4 h5 h6
              go_enter Tryd.func53, Tryd.ntmps53
              go_wp2
              go_ret
              exact ⟨rfl, rfl⟩
            · have e : wantsOf op = 2 := by unfold wantsOf; rw [if_neg (by omega), if_neg h3, if_neg (by omega)]
              rw [e]
              have m6 : (op == 18) = false := by rw [beq_eq_false_iff_ne]; exact h6
              clear e h4 h5 h6
              go_enter Tryd.func53, Tryd.ntmps53
              go_wp2
              go_ret
              exact ⟨rfl, rfl⟩
def SizesIs (most : Nat) (x : Ex) (e : Ending) : Prop := e = .returned (match sizesE most x with
  | some (d, n) => .tuple #[.int .i64 (d : Int), .int .i64 (n : Int), .bool true]
  | none => .tuple #[.int .i64 0, .int .i64 0, .bool false])
structure EB (W : World) (g : Nat) (op : Int) (v : Val) (rel col n : Int) (s : ByteArray) (q : Option Addr) (len c : Nat) : Prop where
  lt : g < W.heap.size
  c0 : W.cell? ⟨g, 0, none⟩ = some (.int .i64 op)
  c1 : W.cell? ⟨g, 1, none⟩ = some (.int .i64 v.k)
  c2 : W.cell? ⟨g, 2, none⟩ = some (.int .i64 v.n)
  c3 : W.cell? ⟨g, 3, none⟩ = some (.string v.s)
  c4 : W.cell? ⟨g, 4, none⟩ = some (.int .i64 rel)
  c5 : W.cell? ⟨g, 5, none⟩ = some (.int .i64 col)
  c6 : W.cell? ⟨g, 6, none⟩ = some (.int .i64 n)
  c7 : W.cell? ⟨g, 7, none⟩ = some (.string s)
  c8 : W.cell? ⟨g, 8, none⟩ = some (.slice q len c)
theorem EB.on {W W' : World} {g : Nat} {op : Int} {v : Val} {rel col n : Int} {s : ByteArray} {q : Option Addr} {len c : Nat} (h : EB W g op v rel col n s q len c) (hb : Below W.heap.size W W') : EB W' g op v rel col n s q len c :=
  ⟨Nat.lt_of_lt_of_le h.lt hb.size, (hb.cell (p := ⟨_, _, none⟩) h.lt).trans h.c0, (hb.cell (p := ⟨_, _, none⟩) h.lt).trans h.c1, (hb.cell (p := ⟨_, _, none⟩) h.lt).trans h.c2, (hb.cell (p := ⟨_, _, none⟩) h.lt).trans h.c3, (hb.cell (p := ⟨_, _, none⟩) h.lt).trans h.c4,
    (hb.cell (p := ⟨_, _, none⟩) h.lt).trans h.c5, (hb.cell (p := ⟨_, _, none⟩) h.lt).trans h.c6, (hb.cell (p := ⟨_, _, none⟩) h.lt).trans h.c7, (hb.cell (p := ⟨_, _, none⟩) h.lt).trans h.c8⟩
theorem EB.new (w : World) (op : Int) (v : Val) (rel col n : Int) (s : ByteArray) (q : Option Addr) (len c : Nat) (T : TypeId) : EB (w.alloc (.cells (exCells op v rel col n s q len c).toArray T)) w.heap.size op v rel col n s q len c :=
  ⟨by simp, by simp [go_sem], by simp [go_sem], by simp [go_sem], by simp [go_sem], by simp [go_sem], by simp [go_sem], by simp [go_sem], by simp [go_sem], by simp [go_sem]⟩
theorem sizes_head {most : Nat} {op : Int} {v : Val} {rel col n : Int} {s : ByteArray} {l : List Ex} (h : headOk op v rel col n s l.length = false) : sizesE most (.mk op v rel col n s l) = none := by
  unfold sizesE
  rw [if_neg]
  rw [Ex.okAll, h]
  simp
theorem SizesIs.no {most : Nat} {x : Ex} (h : sizesE most x = none) : SizesIs most x (.returned (.tuple #[.int .i64 0, .int .i64 0, .bool false])) := by unfold SizesIs; rw [h]
theorem neq_zero (v : Val) (W : World) : (binOp .neq 23 (.agg #[.int .i64 v.k, .int .i64 v.n, .string v.s]) (.agg #[.int .i64 0, .int .i64 0, .string ⟨#[]⟩])).run Tryd.prog W = .ok (.bool (!isZeroV v)) W := (Tryd.neqVal5 v ⟨0, 0, ⟨#[]⟩⟩ W).trans (by unfold isZeroV; simp)
set_option maxHeartbeats 8000000 in
theorem rsizes_head (m : Nat) (op : Int) (v : Val) (rel col n : Int) (s : ByteArray) (l : List Ex) (q : Option Addr) (c : Nat) (w : World) (hh : headOk op v rel col n s l.length = false ∨ m = 0) :
    Calls Tryd.prog 41 #[.agg (exCells op v rel col n s q l.length c).toArray, .int .i64 (m : Int)] w fun e w' => SizesIs m (.mk op v rel col n s l) e ∧ Below w.heap.size w w' := by
  have HS : SizesIs m (.mk op v rel col n s l) (.returned (.tuple #[.int .i64 0, .int .i64 0, .bool false])) := SizesIs.no (by
    rcases hh with h | h
    · exact sizes_head h
    · unfold sizesE
      rw [if_neg]
      have := deep_pos (.mk op v rel col n s l)
      rw [h]
      omega)
  have HS := Lib.hid HS
  obtain ⟨len, hlen⟩ : ∃ len, len = l.length := ⟨_, rfl⟩
  rw [← hlen] at hh ⊢
  clear hlen
  have E0 := EB.new w op v rel col n s q len c 26
  have B0 : Below w.heap.size w (w.alloc (.cells (exCells op v rel col n s q len c).toArray 26)) := ext_alloc (ext_refl _) _
  obtain ⟨W, hW⟩ : ∃ W, W = w.alloc (.cells (exCells op v rel col n s q len c).toArray 26) := ⟨_, rfl⟩
  rw [← hW] at E0 B0
  have HH := Lib.hid hh
  clear hh
  go_enter Tryd.func41, Tryd.ntmps41
  go_wp2_with fail
  refine (roperands_any op _).mono ?_
  rintro e w9 ⟨rfl, hw9⟩
  rw [hw9, ← hW]
  clear hw9 hW
  obtain ⟨lt, c0, c1, c2, c3, c4, c5, c6, c7, c8⟩ := id E0
  obtain ⟨g, hg⟩ : ∃ g, g = w.heap.size := ⟨_, rfl⟩
  have HB := Lib.hid B0
  rw [← hg] at lt c0 c1 c2 c3 c4 c5 c6 c7 c8 E0
  rw [← hg]
  have HE0 := Lib.hid E0
  clear B0 hg E0
  by_cases h1 : ¬ (0 ≤ wantsOf op)
  · have d1 : decide (wantsOf op < 0) = true := decide_eq_true (by omega)
    clear h1
    go_wp2_with fail
    refine bodyPost_ret (v := .tuple #[.int .i64 0, .int .i64 0, .bool false]) (by simp [results, Tryd.results41, go_sem]) rfl ⟨HS.out, HB.out⟩
  replace h1 : 0 ≤ wantsOf op := Classical.not_not.1 h1
  have d1 : decide (wantsOf op < 0) = false := decide_eq_false (by omega)
  by_cases h2 : ¬ (wantsOf op = (len : Int))
  · have m2 : ((len : Int) == wantsOf op) = false := by rw [beq_eq_false_iff_ne]; exact fun h => h2 h.symm
    have m2' : ((len : Int) != wantsOf op) = true := by rw [bne, m2]; rfl
    clear h2
    go_wp2_with fail
    refine bodyPost_ret (v := .tuple #[.int .i64 0, .int .i64 0, .bool false]) (by simp [results, Tryd.results41, go_sem]) rfl ⟨HS.out, HB.out⟩
  replace h2 : wantsOf op = (len : Int) := Classical.not_not.1 h2
  have m2 : ((len : Int) == wantsOf op) = true := by rw [beq_iff_eq]; exact h2.symm
  have m2' : ((len : Int) != wantsOf op) = false := by rw [bne, m2]; rfl
  have H2 := Lib.hid h2
  clear h2
  by_cases h3 : ¬ (s.toList = [])
  · have m3 : (s.toList == ([] : List UInt8)) = false := by rw [beq_eq_false_iff_ne]; exact h3
    have m3' : (s.toList != ([] : List UInt8)) = true := by rw [bne, m3]; rfl
    clear h3
    go_wp2_with fail
    refine bodyPost_ret (v := .tuple #[.int .i64 0, .int .i64 0, .bool false]) (by simp [results, Tryd.results41, go_sem]) rfl ⟨HS.out, HB.out⟩
  replace h3 : s.toList = [] := Classical.not_not.1 h3
  have m3 : (s.toList == ([] : List UInt8)) = true := by rw [beq_iff_eq]; exact h3
  have m3' : (s.toList != ([] : List UInt8)) = false := by rw [bne, m3]; rfl
  have H3 := Lib.hid h3
  clear h3
  by_cases h4 : ¬ (¬ m = 0)
  · have m4 : ((m : Int) == 0) = true := by rw [beq_iff_eq]; omega
    clear h4
    go_wp2_with fail
    refine bodyPost_ret (v := .tuple #[.int .i64 0, .int .i64 0, .bool false]) (by simp [results, Tryd.results41, go_sem]) rfl ⟨HS.out, HB.out⟩
  replace h4 : ¬ m = 0 := Classical.not_not.1 h4
  have m4 : ((m : Int) == 0) = false := by rw [beq_eq_false_iff_ne]; omega
  go_wp2_with fail
  refine (rright_any v W).mono ?_
  rintro e X ⟨rfl, hbX⟩
  have HB2 := Lib.hid (HB.out.trans (hbX.mono HB.out.size))
  have EX := HE0.out.on hbX
  clear lt c0 c1 c2 c3 c4 c5 c6 c7 c8 hbX HB HE0
  have HB := HB2
  clear HB2
  obtain ⟨lt, c0, c1, c2, c3, c4, c5, c6, c7, c8⟩ := EX
  have hn := neq_zero v
  by_cases h5 : ¬ (v.right = true)
  · replace h5 : v.right = false := by simpa using h5
    go_wp2_with fail
    refine bodyPost_ret (v := .tuple #[.int .i64 0, .int .i64 0, .bool false]) (by simp [results, Tryd.results41, go_sem]) rfl ⟨HS.out, HB.out⟩
  replace h5 : v.right = true := Classical.not_not.1 h5
  skip
  go_upto_region 5 with fail
  by_cases eop1 : op = 1
  · have qop1 : (op == 1) = true := by rw [beq_iff_eq]; exact eop1
    have rop1 : (op != 1) = false := by rw [bne, qop1]; rfl
    have eop2 : ¬ op = 2 := by omega
    have qop2 : (op == 2) = false := by rw [beq_eq_false_iff_ne]; exact eop2
    have rop2 : (op != 2) = true := by rw [bne, qop2]; rfl
    have eop3 : ¬ op = 3 := by omega
    have qop3 : (op == 3) = false := by rw [beq_eq_false_iff_ne]; exact eop3
    have rop3 : (op != 3) = true := by rw [bne, qop3]; rfl
    have HO := Lib.hid eop1
    clear eop1
    by_cases erel0 : ¬ rel = 0
    · have qrel0 : (rel == 0) = false := by rw [beq_eq_false_iff_ne]; exact erel0
      have rrel0 : (rel != 0) = true := by rw [bne, qrel0]; rfl
      go_wp2_with fail
      refine bodyPost_ret (v := .tuple #[.int .i64 0, .int .i64 0, .bool false]) (by simp [results, Tryd.results41, go_sem]) rfl ⟨HS.out, HB.out⟩
    replace erel0 : rel = 0 := Classical.not_not.1 erel0
    have qrel0 : (rel == 0) = true := by rw [beq_iff_eq]; exact erel0
    have rrel0 : (rel != 0) = false := by rw [bne, qrel0]; rfl
    have Hrel0 := Lib.hid erel0
    clear erel0
    by_cases ecol0 : ¬ col = 0
    · have qcol0 : (col == 0) = false := by rw [beq_eq_false_iff_ne]; exact ecol0
      have rcol0 : (col != 0) = true := by rw [bne, qcol0]; rfl
      go_wp2_with fail
      refine bodyPost_ret (v := .tuple #[.int .i64 0, .int .i64 0, .bool false]) (by simp [results, Tryd.results41, go_sem]) rfl ⟨HS.out, HB.out⟩
    replace ecol0 : col = 0 := Classical.not_not.1 ecol0
    have qcol0 : (col == 0) = true := by rw [beq_iff_eq]; exact ecol0
    have rcol0 : (col != 0) = false := by rw [bne, qcol0]; rfl
    have Hcol0 := Lib.hid ecol0
    clear ecol0
    by_cases en0 : ¬ n = 0
    · have qn0 : (n == 0) = false := by rw [beq_eq_false_iff_ne]; exact en0
      have rn0 : (n != 0) = true := by rw [bne, qn0]; rfl
      go_wp2_with fail
      refine bodyPost_ret (v := .tuple #[.int .i64 0, .int .i64 0, .bool false]) (by simp [results, Tryd.results41, go_sem]) rfl ⟨HS.out, HB.out⟩
    replace en0 : n = 0 := Classical.not_not.1 en0
    have qn0 : (n == 0) = true := by rw [beq_iff_eq]; exact en0
    have rn0 : (n != 0) = false := by rw [bne, qn0]; rfl
    have Hn0 := Lib.hid en0
    clear en0
    exfalso
    have erel0 := Hrel0.out
    have ecol0 := Hcol0.out
    have en0 := Hn0.out
    have eop1 := HO.out
    rcases HH.out with hf | hf
    · unfold headOk at hf
      have hw : (wantsOf op == (len : Int)) = true := by rw [beq_iff_eq]; exact H2.out
      have hsz : (s.toList == ([] : List UInt8)) = true := by rw [beq_iff_eq]; exact H3.out
      rw [hw, hsz, h5] at hf
      simp_all <;> omega
    · exact h4 hf
  · have qop1 : (op == 1) = false := by rw [beq_eq_false_iff_ne]; exact eop1
    have rop1 : (op != 1) = true := by rw [bne, qop1]; rfl
    by_cases hz : ¬ isZeroV v = true
    · replace hz : isZeroV v = false := by simpa using hz
      rw [hz] at hn
      go_wp2_with fail
      refine bodyPost_ret (v := .tuple #[.int .i64 0, .int .i64 0, .bool false]) (by simp [results, Tryd.results41, go_sem]) rfl ⟨HS.out, HB.out⟩
    replace hz : isZeroV v = true := Classical.not_not.1 hz
    rw [hz] at hn
    by_cases eop2 : op = 2
    · have qop2 : (op == 2) = true := by rw [beq_iff_eq]; exact eop2
      have rop2 : (op != 2) = false := by rw [bne, qop2]; rfl
      have eop3 : ¬ op = 3 := by omega
      have qop3 : (op == 3) = false := by rw [beq_eq_false_iff_ne]; exact eop3
      have rop3 : (op != 3) = true := by rw [bne, qop3]; rfl
      have HO := Lib.hid eop2
      clear eop2
      by_cases hd1a : rel < 0
      · have d1a : decide (rel < 0) = true := decide_eq_true hd1a
        go_wp2_with fail
        refine bodyPost_ret (v := .tuple #[.int .i64 0, .int .i64 0, .bool false]) (by simp [results, Tryd.results41, go_sem]) rfl ⟨HS.out, HB.out⟩
      have d1a : decide (rel < 0) = false := decide_eq_false hd1a
      by_cases hd2a : rel > 15
      · have d2a : decide (rel > 15) = true := decide_eq_true hd2a
        go_wp2_with fail
        refine bodyPost_ret (v := .tuple #[.int .i64 0, .int .i64 0, .bool false]) (by simp [results, Tryd.results41, go_sem]) rfl ⟨HS.out, HB.out⟩
      have d2a : decide (rel > 15) = false := decide_eq_false hd2a
      by_cases hd3a : col < 0
      · have d3a : decide (col < 0) = true := decide_eq_true hd3a
        go_wp2_with fail
        refine bodyPost_ret (v := .tuple #[.int .i64 0, .int .i64 0, .bool false]) (by simp [results, Tryd.results41, go_sem]) rfl ⟨HS.out, HB.out⟩
      have d3a : decide (col < 0) = false := decide_eq_false hd3a
      by_cases hd4a : col > 5
      · have d4a : decide (col > 5) = true := decide_eq_true hd4a
        go_wp2_with fail
        refine bodyPost_ret (v := .tuple #[.int .i64 0, .int .i64 0, .bool false]) (by simp [results, Tryd.results41, go_sem]) rfl ⟨HS.out, HB.out⟩
      have d4a : decide (col > 5) = false := decide_eq_false hd4a
      by_cases en0 : ¬ n = 0
      · have qn0 : (n == 0) = false := by rw [beq_eq_false_iff_ne]; exact en0
        have rn0 : (n != 0) = true := by rw [bne, qn0]; rfl
        go_wp2_with fail
        refine bodyPost_ret (v := .tuple #[.int .i64 0, .int .i64 0, .bool false]) (by simp [results, Tryd.results41, go_sem]) rfl ⟨HS.out, HB.out⟩
      replace en0 : n = 0 := Classical.not_not.1 en0
      have qn0 : (n == 0) = true := by rw [beq_iff_eq]; exact en0
      have rn0 : (n != 0) = false := by rw [bne, qn0]; rfl
      have Hn0 := Lib.hid en0
      clear en0
      exfalso
      have en0 := Hn0.out
      have eop2 := HO.out
      rcases HH.out with hf | hf
      · unfold headOk at hf
        have hw : (wantsOf op == (len : Int)) = true := by rw [beq_iff_eq]; exact H2.out
        have hsz : (s.toList == ([] : List UInt8)) = true := by rw [beq_iff_eq]; exact H3.out
        rw [hw, hsz, h5] at hf
        simp_all <;> omega
      · exact h4 hf
    · have qop2 : (op == 2) = false := by rw [beq_eq_false_iff_ne]; exact eop2
      have rop2 : (op != 2) = true := by rw [bne, qop2]; rfl
      by_cases eop3 : op = 3
      · have qop3 : (op == 3) = true := by rw [beq_iff_eq]; exact eop3
        have rop3 : (op != 3) = false := by rw [bne, qop3]; rfl
        have HO := Lib.hid eop3
        clear eop3
        by_cases erel0 : ¬ rel = 0
        · have qrel0 : (rel == 0) = false := by rw [beq_eq_false_iff_ne]; exact erel0
          have rrel0 : (rel != 0) = true := by rw [bne, qrel0]; rfl
          go_wp2_with fail
          refine bodyPost_ret (v := .tuple #[.int .i64 0, .int .i64 0, .bool false]) (by simp [results, Tryd.results41, go_sem]) rfl ⟨HS.out, HB.out⟩
        replace erel0 : rel = 0 := Classical.not_not.1 erel0
        have qrel0 : (rel == 0) = true := by rw [beq_iff_eq]; exact erel0
        have rrel0 : (rel != 0) = false := by rw [bne, qrel0]; rfl
        have Hrel0 := Lib.hid erel0
        clear erel0
        by_cases ecol0 : ¬ col = 0
        · have qcol0 : (col == 0) = false := by rw [beq_eq_false_iff_ne]; exact ecol0
          have rcol0 : (col != 0) = true := by rw [bne, qcol0]; rfl
          go_wp2_with fail
          refine bodyPost_ret (v := .tuple #[.int .i64 0, .int .i64 0, .bool false]) (by simp [results, Tryd.results41, go_sem]) rfl ⟨HS.out, HB.out⟩
        replace ecol0 : col = 0 := Classical.not_not.1 ecol0
        have qcol0 : (col == 0) = true := by rw [beq_iff_eq]; exact ecol0
        have rcol0 : (col != 0) = false := by rw [bne, qcol0]; rfl
        have Hcol0 := Lib.hid ecol0
        clear ecol0
        by_cases hd5a : n < 1
        · have d5a : decide (n < 1) = true := decide_eq_true hd5a
          go_wp2_with fail
          refine bodyPost_ret (v := .tuple #[.int .i64 0, .int .i64 0, .bool false]) (by simp [results, Tryd.results41, go_sem]) rfl ⟨HS.out, HB.out⟩
        have d5a : decide (n < 1) = false := decide_eq_false hd5a
        by_cases hd6a : n > 4
        · have d6a : decide (n > 4) = true := decide_eq_true hd6a
          go_wp2_with fail
          refine bodyPost_ret (v := .tuple #[.int .i64 0, .int .i64 0, .bool false]) (by simp [results, Tryd.results41, go_sem]) rfl ⟨HS.out, HB.out⟩
        have d6a : decide (n > 4) = false := decide_eq_false hd6a
        exfalso
        have erel0 := Hrel0.out
        have ecol0 := Hcol0.out
        have eop3 := HO.out
        rcases HH.out with hf | hf
        · unfold headOk at hf
          have hw : (wantsOf op == (len : Int)) = true := by rw [beq_iff_eq]; exact H2.out
          have hsz : (s.toList == ([] : List UInt8)) = true := by rw [beq_iff_eq]; exact H3.out
          rw [hw, hsz, h5] at hf
          simp_all <;> omega
        · exact h4 hf
      · have qop3 : (op == 3) = false := by rw [beq_eq_false_iff_ne]; exact eop3
        have rop3 : (op != 3) = true := by rw [bne, qop3]; rfl
        by_cases erel0 : ¬ rel = 0
        · have qrel0 : (rel == 0) = false := by rw [beq_eq_false_iff_ne]; exact erel0
          have rrel0 : (rel != 0) = true := by rw [bne, qrel0]; rfl
          go_wp2_with fail
          refine bodyPost_ret (v := .tuple #[.int .i64 0, .int .i64 0, .bool false]) (by simp [results, Tryd.results41, go_sem]) rfl ⟨HS.out, HB.out⟩
        replace erel0 : rel = 0 := Classical.not_not.1 erel0
        have qrel0 : (rel == 0) = true := by rw [beq_iff_eq]; exact erel0
        have rrel0 : (rel != 0) = false := by rw [bne, qrel0]; rfl
        have Hrel0 := Lib.hid erel0
        clear erel0
        by_cases ecol0 : ¬ col = 0
        · have qcol0 : (col == 0) = false := by rw [beq_eq_false_iff_ne]; exact ecol0
          have rcol0 : (col != 0) = true := by rw [bne, qcol0]; rfl
          go_wp2_with fail
          refine bodyPost_ret (v := .tuple #[.int .i64 0, .int .i64 0, .bool false]) (by simp [results, Tryd.results41, go_sem]) rfl ⟨HS.out, HB.out⟩
        replace ecol0 : col = 0 := Classical.not_not.1 ecol0
        have qcol0 : (col == 0) = true := by rw [beq_iff_eq]; exact ecol0
        have rcol0 : (col != 0) = false := by rw [bne, qcol0]; rfl
        have Hcol0 := Lib.hid ecol0
        clear ecol0
        by_cases en0 : ¬ n = 0
        · have qn0 : (n == 0) = false := by rw [beq_eq_false_iff_ne]; exact en0
          have rn0 : (n != 0) = true := by rw [bne, qn0]; rfl
          go_wp2_with fail
          refine bodyPost_ret (v := .tuple #[.int .i64 0, .int .i64 0, .bool false]) (by simp [results, Tryd.results41, go_sem]) rfl ⟨HS.out, HB.out⟩
        replace en0 : n = 0 := Classical.not_not.1 en0
        have qn0 : (n == 0) = true := by rw [beq_iff_eq]; exact en0
        have rn0 : (n != 0) = false := by rw [bne, qn0]; rfl
        have Hn0 := Lib.hid en0
        clear en0
        exfalso
        have erel0 := Hrel0.out
        have ecol0 := Hcol0.out
        have en0 := Hn0.out
        rcases HH.out with hf | hf
        · unfold headOk at hf
          have hw : (wantsOf op == (len : Int)) = true := by rw [beq_iff_eq]; exact H2.out
          have hsz : (s.toList == ([] : List UInt8)) = true := by rw [beq_iff_eq]; exact H3.out
          rw [hw, hsz, h5] at hf
          simp_all <;> omega
        · exact h4 hf
open Go.RowKit
set_option maxRecDepth 100000
theorem head_parts {op : Int} {v : Val} {rel col n : Int} {s : ByteArray} {len : Nat} (h : headOk op v rel col n s len = true) :
    wantsOf op = (len : Int) ∧ s.toList = [] ∧ v.right = true ∧ (op = 1 ∧ rel = 0 ∧ col = 0 ∧ n = 0 ∨ isZeroV v = true ∧ (op = 2 ∧ 0 ≤ rel ∧ rel ≤ 15 ∧ 0 ≤ col ∧ col ≤ 5 ∧ n = 0 ∨ op = 3 ∧ rel = 0 ∧ col = 0 ∧ 1 ≤ n ∧ n ≤ 4 ∨ op ≠ 1 ∧ op ≠ 2 ∧ op ≠ 3 ∧ rel = 0 ∧ col = 0 ∧ n = 0)) := by
  unfold headOk at h
  simp only [Bool.and_eq_true, beq_iff_eq, Bool.or_eq_true] at h
  obtain ⟨⟨⟨⟨⟨h1, h2⟩, h3⟩, h4⟩, h5⟩, h6⟩ := h
  refine ⟨h1, h2, h3, ?_⟩
  by_cases o1 : op = 1
  · subst o1
    simp at h5 h6
    exact .inl ⟨rfl, h5.1, h5.2, h6⟩
  · right
    refine ⟨h4.resolve_left o1, ?_⟩
    by_cases o2 : op = 2
    · subst o2
      simp at h5 h6
      exact .inl ⟨rfl, h5.1.1.1, h5.1.1.2, h5.1.2, h5.2, h6⟩
    · rw [if_neg o2] at h5
      simp at h5
      by_cases o3 : op = 3
      · subst o3
        simp at h6
        exact .inr (.inl ⟨rfl, h5.1, h5.2, h6.1, h6.2⟩)
      · rw [if_neg o3] at h6
        simp at h6
        exact .inr (.inr ⟨o1, o2, o3, h5.1, h5.2, h6⟩)
theorem sizes_more {k : Nat} {op : Int} {v : Val} {rel col n : Int} {s : ByteArray} {l : List Ex} (hh : headOk op v rel col n s l.length = true) : sizesE (k + 1) (.mk op v rel col n s l) = if okL l = true ∧ deepL l ≤ k ∧ countL l + 1 ≤ 200 then some (deepL l + 1, countL l + 1) else none := by
  unfold sizesE
  rw [Ex.okAll, hh, Bool.true_and, Ex.deep, Ex.count]
  simp only [Nat.add_le_add_iff_right]
theorem sizes_some {k : Nat} {x : Ex} {d a : Nat} (h : sizesE k x = some (d, a)) : x.okAll = true ∧ x.deep = d ∧ x.count = a ∧ d ≤ k ∧ a ≤ 200 ∧ 1 ≤ d ∧ 1 ≤ a := by
  unfold sizesE at h
  split at h
  · rename_i hh
    simp only [Option.some.injEq, Prod.mk.injEq] at h
    have h1 := deep_pos x
    have h2 := count_pos x
    obtain ⟨rfl, rfl⟩ := h
    exact ⟨hh.1, rfl, rfl, hh.2.1, hh.2.2, h1, h2⟩
  · cases h
theorem sizes_none {k : Nat} {x : Ex} (h : sizesE k x = none) : ¬ (x.okAll = true ∧ x.deep ≤ k ∧ x.count ≤ 200) := by
  unfold sizesE at h
  split at h
  · cases h
  · assumption
theorem sizes_1 {k : Nat} {op : Int} {v : Val} {rel col n : Int} {s : ByteArray} {x : Ex} (hh : headOk op v rel col n s 1 = true) :
    (sizesE k x = none → sizesE (k + 1) (.mk op v rel col n s [x]) = none) ∧ ∀ d a, sizesE k x = some (d, a) → sizesE (k + 1) (.mk op v rel col n s [x]) = if 200 < 1 + a then none else some (d + 1, 1 + a) := by
  rw [sizes_more (l := [x]) hh]
  simp only [okL, deepL, countL, Bool.and_true, Nat.max_zero, Nat.add_zero]
  refine ⟨fun h => ?_, fun d a h => ?_⟩
  · have := sizes_none h
    rw [if_neg (fun h => this ⟨h.1, h.2.1, by omega⟩)]
  · obtain ⟨h1, rfl, rfl, h4, h5, _⟩ := sizes_some h
    by_cases hb : 200 < 1 + x.count
    · rw [if_pos hb, if_neg (fun h => by omega)]
    · rw [if_neg hb, if_pos ⟨h1, h4, by omega⟩, Nat.add_comm x.count 1]
theorem sizes_2 {k : Nat} {op : Int} {v : Val} {rel col n : Int} {s : ByteArray} {x y : Ex} (hh : headOk op v rel col n s 2 = true) :
    (sizesE k x = none ∨ sizesE k y = none → sizesE (k + 1) (.mk op v rel col n s [x, y]) = none) ∧ ∀ d a e b, sizesE k x = some (d, a) → sizesE k y = some (e, b) → sizesE (k + 1) (.mk op v rel col n s [x, y]) = if 200 < 1 + a + b then none else some (max d e + 1, 1 + a + b) := by
  rw [sizes_more (l := [x, y]) hh]
  simp only [okL, deepL, countL, Bool.and_true, Nat.max_zero, Nat.add_zero, Bool.and_eq_true]
  refine ⟨fun h => ?_, fun d a e b h h' => ?_⟩
  · rcases h with h | h
    · have := sizes_none h
      rw [if_neg (fun h => this ⟨h.1.1, by omega, by omega⟩)]
    · have := sizes_none h
      rw [if_neg (fun h => this ⟨h.1.2, by omega, by omega⟩)]
  · obtain ⟨h1, rfl, rfl, h4, h5, _⟩ := sizes_some h
    obtain ⟨g1, rfl, rfl, g4, g5, _⟩ := sizes_some h'
    by_cases hb : 200 < 1 + x.count + y.count
    · rw [if_pos hb, if_neg (fun h => by omega)]
    · rw [if_neg hb, if_pos ⟨⟨h1, g1⟩, by omega, by omega⟩, show x.count + y.count + 1 = 1 + x.count + y.count by omega]
set_option maxHeartbeats 8000000 in
theorem rsizes_zero (k : Nat) (op : Int) (v : Val) (rel col n : Int) (s : ByteArray) (q : Option Addr) (c : Nat) (w : World) (hk : k ≤ 100) (hh : headOk op v rel col n s ([] : List Ex).length = true) :
    Calls Tryd.prog 41 #[.agg (exCells op v rel col n s q ([] : List Ex).length c).toArray, .int .i64 ((k + 1 : Nat) : Int)] w fun e w' => SizesIs (k + 1) (.mk op v rel col n s []) e ∧ Below w.heap.size w w' := by
  have HS := Lib.hid (sizes_more (k := k) hh)
  obtain ⟨h1, h2, h3, h4⟩ := head_parts hh
  simp only [List.length_nil] at h1 ⊢
  have E0 := EB.new w op v rel col n s q 0 c 26
  have B0 : Below w.heap.size w (w.alloc (.cells (exCells op v rel col n s q 0 c).toArray 26)) := ext_alloc (ext_refl _) _
  obtain ⟨W, hW⟩ : ∃ W, W = w.alloc (.cells (exCells op v rel col n s q 0 c).toArray 26) := ⟨_, rfl⟩
  rw [← hW] at E0 B0
  have m1 : wantsOf op = 0 := h1
  have m3 : (s.toList == ([] : List UInt8)) = true := by rw [beq_iff_eq]; exact h2
  have m3' : (s.toList != ([] : List UInt8)) = false := by rw [bne, m3]; rfl
  have m4 : (((k + 1 : Nat) : Int) == 0) = false := by rw [beq_eq_false_iff_ne]; omega
  have hn := neq_zero v
  have H4 := Lib.hid h4
  have H3 := Lib.hid h3
  have HW1 := Lib.hid h1
  clear hh h1 h2 h4 h3 m1
  go_enter Tryd.func41, Tryd.ntmps41
  go_wp2_with fail
  refine (roperands_any op _).mono ?_
  rintro e w9 ⟨rfl, hw9⟩
  rw [hw9, ← hW, HW1.out]
  clear hw9 hW
  obtain ⟨lt, c0, c1, c2, c3, c4, c5, c6, c7, c8⟩ := id E0
  obtain ⟨g, hg⟩ : ∃ g, g = w.heap.size := ⟨_, rfl⟩
  have HB := Lib.hid B0
  rw [← hg] at lt c0 c1 c2 c3 c4 c5 c6 c7 c8 E0
  rw [← hg]
  have HE0 := Lib.hid E0
  clear B0 hg E0
  go_wp2_with fail
  refine (rright_any v W).mono ?_
  rintro e X ⟨rfl, hbX⟩
  have HB2 := Lib.hid (HB.out.trans (hbX.mono HB.out.size))
  have EX := HE0.out.on hbX
  clear lt c0 c1 c2 c3 c4 c5 c6 c7 c8 HE0
  have HEX := Lib.hid EX
  obtain ⟨lt, c0, c1, c2, c3, c4, c5, c6, c7, c8⟩ := EX
  rw [H3.out]
  have HB0 := HB
  have HB := HB2
  have HBX := Lib.hid hbX
  clear HB2 hbX
  go_upto_region 5 with fail
  have h4 := H4.out
  clear H4
  rcases h4 with ⟨eop1, erel0, ecol0, en0⟩ | ⟨hz, ⟨eop2, hr1, hr2, hr3, hr4, en0⟩ | ⟨eop3, erel0, ecol0, hr1, hr2⟩ | ⟨eop1, eop2, eop3, erel0, ecol0, en0⟩⟩
  · clear hn
    have qop1 : (op == 1) = true := by rw [beq_iff_eq]; exact eop1
    have rop1 : (op != 1) = false := by rw [bne, qop1]; rfl
    have eop2 : ¬ op = 2 := by omega
    have qop2 : (op == 2) = false := by rw [beq_eq_false_iff_ne]; exact eop2
    have rop2 : (op != 2) = true := by rw [bne, qop2]; rfl
    have eop3 : ¬ op = 3 := by omega
    have qop3 : (op == 3) = false := by rw [beq_eq_false_iff_ne]; exact eop3
    have rop3 : (op != 3) = true := by rw [bne, qop3]; rfl
    clear eop1
    have qrel0 : (rel == 0) = true := by rw [beq_iff_eq]; exact erel0
    have rrel0 : (rel != 0) = false := by rw [bne, qrel0]; rfl
    clear erel0
    have qcol0 : (col == 0) = true := by rw [beq_iff_eq]; exact ecol0
    have rcol0 : (col != 0) = false := by rw [bne, qcol0]; rfl
    clear ecol0
    have qn0 : (n == 0) = true := by rw [beq_iff_eq]; exact en0
    have rn0 : (n != 0) = false := by rw [bne, qn0]; rfl
    clear en0
    go_upto_region 13 with fail
    go_wp2_with fail
    refine wp_loop_rounds 1 ?_
    rw [rounds_succ]
    go_wp2_with fail
    refine bodyPost_ret (v := .tuple #[.int .i64 1, .int .i64 1, .bool true]) (by simp [results, Tryd.results41, go_sem]) rfl ⟨?_, HB.out⟩
    unfold SizesIs
    rw [HS.out]
    simp [okL, deepL, countL]
  · rw [hz] at hn
    have eop1 : ¬ op = 1 := by omega
    have qop1 : (op == 1) = false := by rw [beq_eq_false_iff_ne]; exact eop1
    have rop1 : (op != 1) = true := by rw [bne, qop1]; rfl
    have qop2 : (op == 2) = true := by rw [beq_iff_eq]; exact eop2
    have rop2 : (op != 2) = false := by rw [bne, qop2]; rfl
    have eop3 : ¬ op = 3 := by omega
    have qop3 : (op == 3) = false := by rw [beq_eq_false_iff_ne]; exact eop3
    have rop3 : (op != 3) = true := by rw [bne, qop3]; rfl
    clear eop2
    have qn0 : (n == 0) = true := by rw [beq_iff_eq]; exact en0
    have rn0 : (n != 0) = false := by rw [bne, qn0]; rfl
    clear en0
    have d1 : decide (rel < 0) = false := decide_eq_false (by omega)
    have d2 : decide (rel > 15) = false := decide_eq_false (by omega)
    have d3 : decide (col < 0) = false := decide_eq_false (by omega)
    have d4 : decide (col > 5) = false := decide_eq_false (by omega)
    clear hr1 hr2 hr3 hr4 hz
    go_upto_region 13 with fail
    go_wp2_with fail
    refine wp_loop_rounds 1 ?_
    rw [rounds_succ]
    go_wp2_with fail
    refine bodyPost_ret (v := .tuple #[.int .i64 1, .int .i64 1, .bool true]) (by simp [results, Tryd.results41, go_sem]) rfl ⟨?_, HB.out⟩
    unfold SizesIs
    rw [HS.out]
    simp [okL, deepL, countL]
  · rw [hz] at hn
    have eop1 : ¬ op = 1 := by omega
    have qop1 : (op == 1) = false := by rw [beq_eq_false_iff_ne]; exact eop1
    have rop1 : (op != 1) = true := by rw [bne, qop1]; rfl
    have eop2 : ¬ op = 2 := by omega
    have qop2 : (op == 2) = false := by rw [beq_eq_false_iff_ne]; exact eop2
    have rop2 : (op != 2) = true := by rw [bne, qop2]; rfl
    have qop3 : (op == 3) = true := by rw [beq_iff_eq]; exact eop3
    have rop3 : (op != 3) = false := by rw [bne, qop3]; rfl
    clear eop3
    have qrel0 : (rel == 0) = true := by rw [beq_iff_eq]; exact erel0
    have rrel0 : (rel != 0) = false := by rw [bne, qrel0]; rfl
    clear erel0
    have qcol0 : (col == 0) = true := by rw [beq_iff_eq]; exact ecol0
    have rcol0 : (col != 0) = false := by rw [bne, qcol0]; rfl
    clear ecol0
    have d1 : decide (n < 1) = false := decide_eq_false (by omega)
    have d2 : decide (n > 4) = false := decide_eq_false (by omega)
    clear hr1 hr2 hz
    go_upto_region 13 with fail
    go_wp2_with fail
    refine wp_loop_rounds 1 ?_
    rw [rounds_succ]
    go_wp2_with fail
    refine bodyPost_ret (v := .tuple #[.int .i64 1, .int .i64 1, .bool true]) (by simp [results, Tryd.results41, go_sem]) rfl ⟨?_, HB.out⟩
    unfold SizesIs
    rw [HS.out]
    simp [okL, deepL, countL]
  · exfalso
    have := HW1.out
    unfold wantsOf at this
    split at this
    · omega
    · split at this
      · omega
      · split at this <;> omega
set_option maxHeartbeats 8000000 in
theorem rsizes_one (k : Nat) (op : Int) (v : Val) (rel col n : Int) (s : ByteArray) (x : Ex) (q : Option Addr) (c : Nat) (w : World) (hl : ExL w q 0 [x]) (IH : ∀ (cs : List Value) (w : World), ExM w x cs → Calls Tryd.prog 41 #[.agg cs.toArray, .int .i64 (k : Int)] w fun e w' => SizesIs k x e ∧ Below w.heap.size w w') (hk : k ≤ 100) (hh : headOk op v rel col n s ([x] : List Ex).length = true) :
    Calls Tryd.prog 41 #[.agg (exCells op v rel col n s q ([x] : List Ex).length c).toArray, .int .i64 ((k + 1 : Nat) : Int)] w fun e w' => SizesIs (k + 1) (.mk op v rel col n s [x]) e ∧ Below w.heap.size w w' := by
  have HL := Lib.hid hl
  have HI := Lib.hid IH
  clear hl IH
  have HS1 := Lib.hid (sizes_1 (k := k) (x := x) hh)
  have HS := Lib.hid (sizes_more (k := k) hh)
  obtain ⟨h1, h2, h3, h4⟩ := head_parts hh
  simp only [List.length_cons, List.length_nil, Nat.zero_add] at h1 ⊢
  have E0 := EB.new w op v rel col n s q 1 c 26
  have B0 : Below w.heap.size w (w.alloc (.cells (exCells op v rel col n s q 1 c).toArray 26)) := ext_alloc (ext_refl _) _
  obtain ⟨W, hW⟩ : ∃ W, W = w.alloc (.cells (exCells op v rel col n s q 1 c).toArray 26) := ⟨_, rfl⟩
  rw [← hW] at E0 B0
  have m1 : wantsOf op = 1 := h1
  have m3 : (s.toList == ([] : List UInt8)) = true := by rw [beq_iff_eq]; exact h2
  have m3' : (s.toList != ([] : List UInt8)) = false := by rw [bne, m3]; rfl
  have m4 : (((k + 1 : Nat) : Int) == 0) = false := by rw [beq_eq_false_iff_ne]; omega
  have hn := neq_zero v
  have H4 := Lib.hid h4
  have H3 := Lib.hid h3
  have HW1 := Lib.hid h1
  clear hh h1 h2 h4 h3 m1
  go_enter Tryd.func41, Tryd.ntmps41
  go_wp2_with fail
  refine (roperands_any op _).mono ?_
  rintro e w9 ⟨rfl, hw9⟩
  rw [hw9, ← hW, HW1.out]
  clear hw9 hW
  obtain ⟨lt, c0, c1, c2, c3, c4, c5, c6, c7, c8⟩ := id E0
  obtain ⟨g, hg⟩ : ∃ g, g = w.heap.size := ⟨_, rfl⟩
  have HB := Lib.hid B0
  rw [← hg] at lt c0 c1 c2 c3 c4 c5 c6 c7 c8 E0
  rw [← hg]
  have HE0 := Lib.hid E0
  clear B0 hg E0
  go_wp2_with fail
  refine (rright_any v W).mono ?_
  rintro e X ⟨rfl, hbX⟩
  have HB2 := Lib.hid (HB.out.trans (hbX.mono HB.out.size))
  have EX := HE0.out.on hbX
  clear lt c0 c1 c2 c3 c4 c5 c6 c7 c8 HE0
  have HEX := Lib.hid EX
  obtain ⟨lt, c0, c1, c2, c3, c4, c5, c6, c7, c8⟩ := EX
  rw [H3.out]
  have HB0 := HB
  have HB := HB2
  have HBX := Lib.hid hbX
  clear HB2 hbX
  go_upto_region 5 with fail
  have h4 := H4.out
  clear H4
  have h4 : isZeroV v = true ∧ op ≠ 1 ∧ op ≠ 2 ∧ op ≠ 3 ∧ rel = 0 ∧ col = 0 ∧ n = 0 := by
    have hw := HW1.out
    have h0 : ∀ o : Int, o = 1 ∨ o = 2 ∨ o = 3 → wantsOf o = 0 := fun o ho => by rcases ho with rfl | rfl | rfl <;> rfl
    rcases h4 with ⟨e, _⟩ | ⟨hz, ⟨e, _⟩ | ⟨e, _⟩ | h⟩
    · rw [h0 op (.inl e)] at hw; omega
    · rw [h0 op (.inr (.inl e))] at hw; omega
    · rw [h0 op (.inr (.inr e))] at hw; omega
    · exact ⟨hz, h⟩
  obtain ⟨hz, eop1, eop2, eop3, erel0, ecol0, en0⟩ := h4
  rw [hz] at hn
  have qop1 : (op == 1) = false := by rw [beq_eq_false_iff_ne]; exact eop1
  have rop1 : (op != 1) = true := by rw [bne, qop1]; rfl
  have qop2 : (op == 2) = false := by rw [beq_eq_false_iff_ne]; exact eop2
  have rop2 : (op != 2) = true := by rw [bne, qop2]; rfl
  have qop3 : (op == 3) = false := by rw [beq_eq_false_iff_ne]; exact eop3
  have rop3 : (op != 3) = true := by rw [bne, qop3]; rfl
  have qrel0 : (rel == 0) = true := by rw [beq_iff_eq]; exact erel0
  have rrel0 : (rel != 0) = false := by rw [bne, qrel0]; rfl
  clear erel0
  have qcol0 : (col == 0) = true := by rw [beq_iff_eq]; exact ecol0
  have rcol0 : (col != 0) = false := by rw [bne, qcol0]; rfl
  clear ecol0
  have qn0 : (n == 0) = true := by rw [beq_iff_eq]; exact en0
  have rn0 : (n != 0) = false := by rw [bne, qn0]; rfl
  clear en0
  clear hz
  go_upto_region 13 with fail
  go_wp2_with fail
  have hl := ExL.at_ (j := 0) (x := x) (ExL.ext HBX.out _ _ _ (ExL.ext HB0.out _ _ _ HL.out)) rfl
  obtain ⟨g', off, cs, rfl, hg', hx, hcell⟩ := hl
  have HX := Lib.hid hx
  obtain ⟨op', v', rel', col', n', s', l'⟩ := x
  rw [ExM.iff] at hx
  obtain ⟨-, q', c', rfl, -, -⟩ := hx
  have f0 := hcell 0 _ rfl
  have f1 := hcell 1 _ rfl
  have f2 := hcell 2 _ rfl
  have f3 := hcell 3 _ rfl
  have f4 := hcell 4 _ rfl
  have f5 := hcell 5 _ rfl
  have f6 := hcell 6 _ rfl
  have f7 := hcell 7 _ rfl
  have f8 := hcell 8 _ rfl
  simp only [Nat.zero_mul, Nat.add_zero] at f0 f1 f2 f3 f4 f5 f6 f7 f8
  clear hcell
  have hkw : wrap64 (k : Int) = (k : Int) := by unfold wrap64; omega
  refine wp_loop_rounds 2 ?_
  rw [rounds_succ]
  go_wp2_with fail
  cases hsz : sizesE k (.mk op' v' rel' col' n' s' l') with
  | none =>
    have HZ := Lib.hid (HS1.out.1 hsz)
    have HI2 := Lib.hid (fun (e : Ending) (h : SizesIs k (.mk op' v' rel' col' n' s' l') e) => (by unfold SizesIs at h; rw [hsz] at h; exact h : e = .returned (.tuple #[.int .i64 0, .int .i64 0, .bool false])))
    clear hsz HS1
    refine (HI.out _ _ HX.out).mono ?_
    rintro e Y ⟨he, hbY⟩
    obtain rfl := HI2.out _ he
    have HBY := Lib.hid (HB.out.trans (hbY.mono HB.out.size))
    clear he hbY f0 f1 f2 f3 f4 f5 f6 f7 f8 c0 c1 c2 c3 c4 c5 c6 c7 c8 lt
    go_wp2_with fail
    refine bodyPost_ret (v := .tuple #[.int .i64 0, .int .i64 0, .bool false]) (by simp [results, Tryd.results41, go_sem]) rfl ⟨SizesIs.no HZ.out, HBY.out⟩
  | some da =>
    obtain ⟨d, a⟩ := da
    have HZ := Lib.hid (HS1.out.2 d a hsz)
    have hb := sizes_some hsz
    have HI2 := Lib.hid (fun (e : Ending) (h : SizesIs k (.mk op' v' rel' col' n' s' l') e) => (by unfold SizesIs at h; rw [hsz] at h; exact h : e = .returned (.tuple #[.int .i64 (d : Int), .int .i64 (a : Int), .bool true])))
    obtain ⟨-, -, -, hd1, ha1, hd2, ha2⟩ := hb
    clear hsz HS1
    refine (HI.out _ _ HX.out).mono ?_
    rintro e Y ⟨he, hbY⟩
    obtain rfl := HI2.out _ he
    have HBY := Lib.hid (HB.out.trans (hbY.mono HB.out.size))
    have EY := HEX.out.on hbY
    clear he hbY f0 f1 f2 f3 f4 f5 f6 f7 f8 c0 c1 c2 c3 c4 c5 c6 c7 c8 lt
    obtain ⟨lt, c0, c1, c2, c3, c4, c5, c6, c7, c8⟩ := EY
    by_cases h200 : 200 < 1 + a
    · have dd : (1 : Int) + (a : Int) > 200 := by omega
      have HQ := Lib.hid (show sizesE (k + 1) (.mk op v rel col n s [.mk op' v' rel' col' n' s' l']) = none by rw [HZ.out, if_pos h200])
      clear h200
      go_wp2_with fail
      refine bodyPost_ret (v := .tuple #[.int .i64 0, .int .i64 0, .bool false]) (by simp [results, Tryd.results41, go_sem]) rfl ⟨SizesIs.no HQ.out, HBY.out⟩
    · have dd : ¬ (1 : Int) + (a : Int) > 200 := by omega
      have HQ := Lib.hid (show sizesE (k + 1) (.mk op v rel col n s [.mk op' v' rel' col' n' s' l']) = some (d + 1, 1 + a) by rw [HZ.out, if_neg h200])
      clear h200
      go_wp2_with fail
      rw [rounds_succ]
      go_wp2_with fail
      refine bodyPost_ret (v := .tuple #[.int .i64 ((d : Int) + 1), .int .i64 (1 + (a : Int)), .bool true]) (by simp [results, Tryd.results41, go_sem]) rfl ⟨?_, HBY.out⟩
      unfold SizesIs
      rw [HQ.out]
      simp
set_option maxHeartbeats 8000000 in
theorem rsizes_two (k : Nat) (op : Int) (v : Val) (rel col n : Int) (s : ByteArray) (x y : Ex) (q : Option Addr) (c : Nat) (w : World) (hl : ExL w q 0 [x, y]) (IHx : ∀ (cs : List Value) (w : World), ExM w x cs → Calls Tryd.prog 41 #[.agg cs.toArray, .int .i64 (k : Int)] w fun e w' => SizesIs k x e ∧ Below w.heap.size w w') (IHy : ∀ (cs : List Value) (w : World), ExM w y cs → Calls Tryd.prog 41 #[.agg cs.toArray, .int .i64 (k : Int)] w fun e w' => SizesIs k y e ∧ Below w.heap.size w w') (hk : k ≤ 100) (hh : headOk op v rel col n s ([x, y] : List Ex).length = true) :
    Calls Tryd.prog 41 #[.agg (exCells op v rel col n s q ([x, y] : List Ex).length c).toArray, .int .i64 ((k + 1 : Nat) : Int)] w fun e w' => SizesIs (k + 1) (.mk op v rel col n s [x, y]) e ∧ Below w.heap.size w w' := by
  have HL := Lib.hid hl
  have HIx := Lib.hid IHx
  have HIy := Lib.hid IHy
  clear hl IHx IHy
  have HS1 := Lib.hid (sizes_2 (k := k) (x := x) (y := y) hh)
  have HS := Lib.hid (sizes_more (k := k) hh)
  obtain ⟨h1, h2, h3, h4⟩ := head_parts hh
  simp only [List.length_cons, List.length_nil, Nat.zero_add] at h1 ⊢
  have E0 := EB.new w op v rel col n s q 2 c 26
  have B0 : Below w.heap.size w (w.alloc (.cells (exCells op v rel col n s q 2 c).toArray 26)) := ext_alloc (ext_refl _) _
  obtain ⟨W, hW⟩ : ∃ W, W = w.alloc (.cells (exCells op v rel col n s q 2 c).toArray 26) := ⟨_, rfl⟩
  rw [← hW] at E0 B0
  have m1 : wantsOf op = 2 := h1
  have m3 : (s.toList == ([] : List UInt8)) = true := by rw [beq_iff_eq]; exact h2
  have m3' : (s.toList != ([] : List UInt8)) = false := by rw [bne, m3]; rfl
  have m4 : (((k + 1 : Nat) : Int) == 0) = false := by rw [beq_eq_false_iff_ne]; omega
  have hn := neq_zero v
  have H4 := Lib.hid h4
  have H3 := Lib.hid h3
  have HW1 := Lib.hid h1
  clear hh h1 h2 h4 h3 m1
  go_enter Tryd.func41, Tryd.ntmps41
  go_wp2_with fail
  refine (roperands_any op _).mono ?_
  rintro e w9 ⟨rfl, hw9⟩
  rw [hw9, ← hW, HW1.out]
  clear hw9 hW
  obtain ⟨lt, c0, c1, c2, c3, c4, c5, c6, c7, c8⟩ := id E0
  obtain ⟨g, hg⟩ : ∃ g, g = w.heap.size := ⟨_, rfl⟩
  have HB := Lib.hid B0
  rw [← hg] at lt c0 c1 c2 c3 c4 c5 c6 c7 c8 E0
  rw [← hg]
  have HE0 := Lib.hid E0
  clear B0 hg E0
  go_wp2_with fail
  refine (rright_any v W).mono ?_
  rintro e X ⟨rfl, hbX⟩
  have HB2 := Lib.hid (HB.out.trans (hbX.mono HB.out.size))
  have EX := HE0.out.on hbX
  clear lt c0 c1 c2 c3 c4 c5 c6 c7 c8 HE0
  have HEX := Lib.hid EX
  obtain ⟨lt, c0, c1, c2, c3, c4, c5, c6, c7, c8⟩ := EX
  rw [H3.out]
  have HB0 := HB
  have HB := HB2
  have HBX := Lib.hid hbX
  clear HB2 hbX
  go_upto_region 5 with fail
  have h4 := H4.out
  clear H4
  have h4 : isZeroV v = true ∧ op ≠ 1 ∧ op ≠ 2 ∧ op ≠ 3 ∧ rel = 0 ∧ col = 0 ∧ n = 0 := by
    have hw := HW1.out
    have h0 : ∀ o : Int, o = 1 ∨ o = 2 ∨ o = 3 → wantsOf o = 0 := fun o ho => by rcases ho with rfl | rfl | rfl <;> rfl
    rcases h4 with ⟨e, _⟩ | ⟨hz, ⟨e, _⟩ | ⟨e, _⟩ | h⟩
    · rw [h0 op (.inl e)] at hw; omega
    · rw [h0 op (.inr (.inl e))] at hw; omega
    · rw [h0 op (.inr (.inr e))] at hw; omega
    · exact ⟨hz, h⟩
  obtain ⟨hz, eop1, eop2, eop3, erel0, ecol0, en0⟩ := h4
  rw [hz] at hn
  have qop1 : (op == 1) = false := by rw [beq_eq_false_iff_ne]; exact eop1
  have rop1 : (op != 1) = true := by rw [bne, qop1]; rfl
  have qop2 : (op == 2) = false := by rw [beq_eq_false_iff_ne]; exact eop2
  have rop2 : (op != 2) = true := by rw [bne, qop2]; rfl
  have qop3 : (op == 3) = false := by rw [beq_eq_false_iff_ne]; exact eop3
  have rop3 : (op != 3) = true := by rw [bne, qop3]; rfl
  have qrel0 : (rel == 0) = true := by rw [beq_iff_eq]; exact erel0
  have rrel0 : (rel != 0) = false := by rw [bne, qrel0]; rfl
  clear erel0
  have qcol0 : (col == 0) = true := by rw [beq_iff_eq]; exact ecol0
  have rcol0 : (col != 0) = false := by rw [bne, qcol0]; rfl
  clear ecol0
  have qn0 : (n == 0) = true := by rw [beq_iff_eq]; exact en0
  have rn0 : (n != 0) = false := by rw [bne, qn0]; rfl
  clear en0
  clear hz
  go_upto_region 13 with fail
  go_wp2_with fail
  have hl := ExL.ext HBX.out _ _ _ (ExL.ext HB0.out _ _ _ HL.out)
  have HLX := Lib.hid hl
  have hl0 := ExL.at_ (j := 0) (x := x) hl rfl
  obtain ⟨g', off, cs, rfl, hg', hx, hcell⟩ := hl0
  have HX := Lib.hid hx
  obtain ⟨op', v', rel', col', n', s', l'⟩ := x
  rw [ExM.iff] at hx
  obtain ⟨-, q', c', rfl, -, -⟩ := hx
  have f0 := hcell 0 _ rfl
  have f1 := hcell 1 _ rfl
  have f2 := hcell 2 _ rfl
  have f3 := hcell 3 _ rfl
  have f4 := hcell 4 _ rfl
  have f5 := hcell 5 _ rfl
  have f6 := hcell 6 _ rfl
  have f7 := hcell 7 _ rfl
  have f8 := hcell 8 _ rfl
  simp only [Nat.zero_mul, Nat.add_zero] at f0 f1 f2 f3 f4 f5 f6 f7 f8
  clear hcell hl
  have hkw : wrap64 (k : Int) = (k : Int) := by unfold wrap64; omega
  refine wp_loop_rounds 3 ?_
  rw [rounds_succ]
  go_wp2_with fail
  cases hsz : sizesE k (.mk op' v' rel' col' n' s' l') with
  | none =>
    have HZ := Lib.hid (HS1.out.1 (.inl hsz))
    have HI2 := Lib.hid (fun (e : Ending) (h : SizesIs k (.mk op' v' rel' col' n' s' l') e) => (by unfold SizesIs at h; rw [hsz] at h; exact h : e = .returned (.tuple #[.int .i64 0, .int .i64 0, .bool false])))
    clear hsz HS1
    refine (HIx.out _ _ HX.out).mono ?_
    rintro e Y ⟨he, hbY⟩
    obtain rfl := HI2.out _ he
    have HBY := Lib.hid (HB.out.trans (hbY.mono HB.out.size))
    clear he hbY f0 f1 f2 f3 f4 f5 f6 f7 f8 c0 c1 c2 c3 c4 c5 c6 c7 c8 lt
    go_wp2_with fail
    refine bodyPost_ret (v := .tuple #[.int .i64 0, .int .i64 0, .bool false]) (by simp [results, Tryd.results41, go_sem]) rfl ⟨SizesIs.no HZ.out, HBY.out⟩
  | some da =>
    obtain ⟨d, a⟩ := da
    have hb := sizes_some hsz
    have HI2 := Lib.hid (fun (e : Ending) (h : SizesIs k (.mk op' v' rel' col' n' s' l') e) => (by unfold SizesIs at h; rw [hsz] at h; exact h : e = .returned (.tuple #[.int .i64 (d : Int), .int .i64 (a : Int), .bool true])))
    obtain ⟨-, -, -, hd1, ha1, hd2, ha2⟩ := hb
    have HSZ := Lib.hid hsz
    clear hsz
    refine (HIx.out _ _ HX.out).mono ?_
    rintro e Y ⟨he, hbY⟩
    obtain rfl := HI2.out _ he
    have HBY := Lib.hid (HB.out.trans (hbY.mono HB.out.size))
    have EY := HEX.out.on hbY
    have HLY := Lib.hid (ExL.ext hbY _ _ _ HLX.out)
    clear he hbY f0 f1 f2 f3 f4 f5 f6 f7 f8 c0 c1 c2 c3 c4 c5 c6 c7 c8 lt
    have HEY := Lib.hid EY
    obtain ⟨lt, c0, c1, c2, c3, c4, c5, c6, c7, c8⟩ := EY
    by_cases h200 : 200 < 1 + a
    · have dd : (1 : Int) + (a : Int) > 200 := by omega
      have HQ := Lib.hid (show sizesE (k + 1) (.mk op v rel col n s [.mk op' v' rel' col' n' s' l', y]) = none by
        cases hy : sizesE k y with
        | none => exact HS1.out.1 (.inr hy)
        | some eb => rw [HS1.out.2 d a eb.1 eb.2 HSZ.out hy, if_pos (by omega)])
      clear h200
      go_wp2_with fail
      refine bodyPost_ret (v := .tuple #[.int .i64 0, .int .i64 0, .bool false]) (by simp [results, Tryd.results41, go_sem]) rfl ⟨SizesIs.no HQ.out, HBY.out⟩
    · have dd : ¬ (1 : Int) + (a : Int) > 200 := by omega
      clear h200
      go_wp2_with fail
      clear lt c0 c1 c2 c3 c4 c5 c6 c7 c8
      obtain ⟨lt, c0, c1, c2, c3, c4, c5, c6, c7, c8⟩ := HEY.out
      have hl1 := ExL.at_ (j := 1) (x := y) HLY.out rfl
      obtain ⟨g2, off2, cs2, hq2, hg2, hx2, hcell⟩ := hl1
      obtain ⟨rfl, rfl⟩ : g2 = g' ∧ off2 = off := by cases hq2; exact ⟨rfl, rfl⟩
      clear hq2
      have HX2 := Lib.hid hx2
      obtain ⟨op2, v2, rel2, col2, n2, s2, l2⟩ := y
      rw [ExM.iff] at hx2
      obtain ⟨-, q2, cc2, rfl, -, -⟩ := hx2
      have f0 := hcell 0 _ rfl
      have f1 := hcell 1 _ rfl
      have f2 := hcell 2 _ rfl
      have f3 := hcell 3 _ rfl
      have f4 := hcell 4 _ rfl
      have f5 := hcell 5 _ rfl
      have f6 := hcell 6 _ rfl
      have f7 := hcell 7 _ rfl
      have f8 := hcell 8 _ rfl
      clear hcell
      rw [rounds_succ]
      go_wp2_with fail
      cases hsy : sizesE k (.mk op2 v2 rel2 col2 n2 s2 l2) with
      | none =>
        have HZ := Lib.hid (HS1.out.1 (.inr hsy))
        have HI2 := Lib.hid (fun (e : Ending) (h : SizesIs k (.mk op2 v2 rel2 col2 n2 s2 l2) e) => (by unfold SizesIs at h; rw [hsy] at h; exact h : e = .returned (.tuple #[.int .i64 0, .int .i64 0, .bool false])))
        clear hsy HS1
        refine (HIy.out _ _ HX2.out).mono ?_
        rintro e Z ⟨he, hbZ⟩
        obtain rfl := HI2.out _ he
        have HBZ := Lib.hid (HBY.out.trans (hbZ.mono HBY.out.size))
        clear he hbZ f0 f1 f2 f3 f4 f5 f6 f7 f8 c0 c1 c2 c3 c4 c5 c6 c7 c8 lt
        go_wp2_with fail
        refine bodyPost_ret (v := .tuple #[.int .i64 0, .int .i64 0, .bool false]) (by simp [results, Tryd.results41, go_sem]) rfl ⟨SizesIs.no HZ.out, HBZ.out⟩
      | some eb =>
        obtain ⟨e2, b⟩ := eb
        have HZ := Lib.hid (HS1.out.2 d a e2 b HSZ.out hsy)
        have hb := sizes_some hsy
        have HI2 := Lib.hid (fun (e : Ending) (h : SizesIs k (.mk op2 v2 rel2 col2 n2 s2 l2) e) => (by unfold SizesIs at h; rw [hsy] at h; exact h : e = .returned (.tuple #[.int .i64 (e2 : Int), .int .i64 (b : Int), .bool true])))
        obtain ⟨-, -, -, he1, hb1, he2, hb2⟩ := hb
        clear hsy HS1
        refine (HIy.out _ _ HX2.out).mono ?_
        rintro e Z ⟨he, hbZ⟩
        obtain rfl := HI2.out _ he
        have HBZ := Lib.hid (HBY.out.trans (hbZ.mono HBY.out.size))
        have EZ := HEY.out.on hbZ
        clear he hbZ f0 f1 f2 f3 f4 f5 f6 f7 f8 c0 c1 c2 c3 c4 c5 c6 c7 c8 lt
        obtain ⟨lt, c0, c1, c2, c3, c4, c5, c6, c7, c8⟩ := EZ
        rcases Nat.lt_or_ge (max d e2) (d + 1) with hm | hm
        · have de : ¬ (e2 : Int) + 1 > (d : Int) + 1 := by omega
          have hmd : max d e2 = d := by omega
          by_cases h2 : 200 < 1 + a + b
          · have d2 : (1 : Int) + (a : Int) + (b : Int) > 200 := by omega
            have HQ := Lib.hid (show sizesE (k + 1) (.mk op v rel col n s [.mk op' v' rel' col' n' s' l', .mk op2 v2 rel2 col2 n2 s2 l2]) = none by rw [HZ.out, if_pos h2])
            clear h2 hm hmd
            go_wp2_with fail
            refine bodyPost_ret (v := .tuple #[.int .i64 0, .int .i64 0, .bool false]) (by simp [results, Tryd.results41, go_sem]) rfl ⟨SizesIs.no HQ.out, HBZ.out⟩
          · have d2 : ¬ (1 : Int) + (a : Int) + (b : Int) > 200 := by omega
            have HQ := Lib.hid (show sizesE (k + 1) (.mk op v rel col n s [.mk op' v' rel' col' n' s' l', .mk op2 v2 rel2 col2 n2 s2 l2]) = some (d + 1, 1 + a + b) by rw [HZ.out, if_neg h2, hmd])
            clear h2 hm hmd
            go_wp2_with fail
            rw [rounds_succ]
            go_wp2_with fail
            refine bodyPost_ret (v := .tuple #[.int .i64 ((d : Int) + 1), .int .i64 (1 + (a : Int) + (b : Int)), .bool true]) (by simp [results, Tryd.results41, go_sem]) rfl ⟨?_, HBZ.out⟩
            unfold SizesIs
            rw [HQ.out]
            simp
        · have de : (e2 : Int) + 1 > (d : Int) + 1 := by omega
          have hmd : max d e2 = e2 := by omega
          by_cases h2 : 200 < 1 + a + b
          · have d2 : (1 : Int) + (a : Int) + (b : Int) > 200 := by omega
            have HQ := Lib.hid (show sizesE (k + 1) (.mk op v rel col n s [.mk op' v' rel' col' n' s' l', .mk op2 v2 rel2 col2 n2 s2 l2]) = none by rw [HZ.out, if_pos h2])
            clear h2 hm hmd
            go_wp2_with fail
            refine bodyPost_ret (v := .tuple #[.int .i64 0, .int .i64 0, .bool false]) (by simp [results, Tryd.results41, go_sem]) rfl ⟨SizesIs.no HQ.out, HBZ.out⟩
          · have d2 : ¬ (1 : Int) + (a : Int) + (b : Int) > 200 := by omega
            have HQ := Lib.hid (show sizesE (k + 1) (.mk op v rel col n s [.mk op' v' rel' col' n' s' l', .mk op2 v2 rel2 col2 n2 s2 l2]) = some (e2 + 1, 1 + a + b) by rw [HZ.out, if_neg h2, hmd])
            clear h2 hm hmd
            go_wp2_with fail
            rw [rounds_succ]
            go_wp2_with fail
            refine bodyPost_ret (v := .tuple #[.int .i64 ((e2 : Int) + 1), .int .i64 (1 + (a : Int) + (b : Int)), .bool true]) (by simp [results, Tryd.results41, go_sem]) rfl ⟨?_, HBZ.out⟩
            unfold SizesIs
            rw [HQ.out]
            simp
open Go.RowKit
set_option maxRecDepth 100000
theorem head_two {op : Int} {v : Val} {rel col n : Int} {s : ByteArray} {len : Nat} (h : headOk op v rel col n s len = true) : len ≤ 2 := by
  have h1 := (head_parts h).1
  unfold wantsOf at h1
  split at h1
  · omega
  · split at h1
    · omega
    · split at h1 <;> omega
theorem rsizes_any : ∀ (k : Nat), k ≤ 100 → ∀ (x : Ex) (cs : List Value) (w : World), ExM w x cs → Calls Tryd.prog 41 #[.agg cs.toArray, .int .i64 (k : Int)] w fun e w' => SizesIs k x e ∧ Below w.heap.size w w'
  | 0, _, .mk op v rel col n s l, cs, w, h => by
    rw [ExM.iff] at h
    obtain ⟨-, q, c, rfl, -, -⟩ := h
    exact rsizes_head 0 op v rel col n s l q c w (.inr rfl)
  | k + 1, hk, .mk op v rel col n s l, cs, w, h => by
    rw [ExM.iff] at h
    obtain ⟨-, q, c, rfl, -, hl⟩ := h
    cases hh : headOk op v rel col n s l.length with
    | false => exact rsizes_head (k + 1) op v rel col n s l q c w (.inl hh)
    | true =>
      match l, hl, hh with
      | [], _, hh => exact rsizes_zero k op v rel col n s q c w (by omega) hh
      | [x], hl, hh => exact rsizes_one k op v rel col n s x q c w hl (rsizes_any k (by omega) x) (by omega) hh
      | [x, y], hl, hh => exact rsizes_two k op v rel col n s x y q c w hl (rsizes_any k (by omega) x) (rsizes_any k (by omega) y) (by omega) hh
      | _ :: _ :: _ :: r, _, hh =>
        have := head_two hh
        simp only [List.length_cons] at this
        omega
set_option maxHeartbeats 4000000 in
theorem rightE_any (x : Ex) (cs : List Value) (w : World) (h : ExM w x cs) : Calls Tryd.prog 24 #[.agg cs.toArray] w fun e w' => e = .returned (.bool (rightE x)) ∧ Below w.heap.size w w' := by
  obtain ⟨op, v, rel, col, n, s, l⟩ := x
  have hx := h
  rw [ExM.iff] at h
  obtain ⟨-, q, c, rfl, -, -⟩ := h
  have B0 : Below w.heap.size w (w.alloc (.cells (exCells op v rel col n s q l.length c).toArray 26)) := ext_alloc (ext_refl _) _
  have H := Lib.hid (rsizes_any 20 (by omega) _ _ _ (ExM.ext B0 _ _ hx))
  have HB := Lib.hid B0
  clear B0 hx
  go_enter Tryd.func24, Tryd.ntmps24
  go_wp2_with fail
  refine H.out.mono ?_
  rintro e Y ⟨he, hbY⟩
  have HBY := Lib.hid (HB.out.trans (hbY.mono HB.out.size))
  clear hbY
  unfold SizesIs at he
  cases hs : sizesE 20 (.mk op v rel col n s l) with
  | none =>
    have HR := Lib.hid (show rightE (.mk op v rel col n s l) = false by unfold rightE; rw [hs]; rfl)
    rw [hs] at he
    simp only at he
    clear hs
    subst he
    go_wp2_with fail
    refine bodyPost_ret (v := .bool false) (by simp [results, Tryd.results24, go_sem]) rfl ⟨by rw [HR.out], HBY.out⟩
  | some da =>
    have HR := Lib.hid (show rightE (.mk op v rel col n s l) = true by unfold rightE; rw [hs]; rfl)
    rw [hs] at he
    simp only at he
    clear hs
    subst he
    go_wp2_with fail
    refine bodyPost_ret (v := .bool true) (by simp [results, Tryd.results24, go_sem]) rfl ⟨by rw [HR.out], HBY.out⟩
open Go.RowKit
set_option maxRecDepth 100000
theorem rightE_parts {x : Ex} (h : rightE x = true) : x.okAll = true ∧ x.deep ≤ 20 ∧ x.count ≤ 200 := by
  unfold rightE sizesE at h
  split at h
  · assumption
  · cases h
end Go.Proofs.YtklgoajgchfmeaaDoor
