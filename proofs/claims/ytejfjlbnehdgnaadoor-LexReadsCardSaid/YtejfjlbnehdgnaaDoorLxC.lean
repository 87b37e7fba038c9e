/- What Lex answers, put down as two sentences (to be shown of the code); tokens in memory; the chapter's examples. -/
import Derived.Test.YtejfjlbnehdgnaaDoorLxU
import Derived.Test.YtejfjlbnehdgnaaDoorGv
import Derived.Test.YtejfjlbnehdgnaaDoorFlat2
import Derived.Test.YtejfjlbnehdgnaaDoorValA
namespace Go.Proofs.YtejfjlbnehdgnaaDoor
open Go.RowKit
set_option maxRecDepth 100000

abbrev tokCell (t : Tok) : List Value := [.int .i64 (t.kd : Int), .int .i64 (t.n : Int), .int .i64 (t.at_ : Int), .string (bsB t.s)]
theorem tokCell_len (t : Tok) : (tokCell t).length = 4 := rfl
theorem tokCell_one (t : Tok) (u : Value) (h : u ∈ tokCell t) : u.oneCell' = true := by simp at h; rcases h with rfl | rfl | rfl | rfl <;> rfl

structure LexC : Prop where
  good : ∀ (s : ByteArray) (L : List Tok) (w : World), GV w → s.size ≤ 9223372036854775807 → lexS s.data.toList = .ok L →
    Calls Tryd.prog 11 #[.string s] w fun e w' => (∃ q c, e = .returned (.tuple #[.slice q L.length c, .int .i64 0, .int .i64 0]) ∧ OwnF w' w.heap.size 32 4 tokCell (.slice q L.length c) L) ∧ Below w.heap.size w w'
  bad : ∀ (s : ByteArray) (er a : Nat) (w : World), GV w → s.size ≤ 9223372036854775807 → lexS s.data.toList = .err er a →
    Calls Tryd.prog 11 #[.string s] w fun e w' => (∃ q c, e = .returned (.tuple #[.slice q 0 c, .int .i64 (er : Int), .int .i64 (a : Int)])) ∧ Below w.heap.size w w'

/-- Tokens as they are read. -/
structure TokC (w : World) (g o : Nat) (t : Tok) : Prop where
  c0 : w.cell? ⟨g, o, none⟩ = some (.int .i64 (t.kd : Int))
  c1 : w.cell? ⟨g, o + 1, none⟩ = some (.int .i64 (t.n : Int))
  c2 : w.cell? ⟨g, o + 2, none⟩ = some (.int .i64 (t.at_ : Int))
  c3 : w.cell? ⟨g, o + 3, none⟩ = some (.string (bsB t.s))
/-- A slice of tokens: its parts. -/
theorem OwnF.toks {w : World} {base : Nat} {q : Option Addr} {n c : Nat} {L : List Tok} (h : OwnF w base 32 4 tokCell (.slice q n c) L) : n = L.length ∧ L.length ≤ c ∧ c ≤ 9223372036854775807 ∧ ArrA base w.heap.size q 4 L (TokC w) := by
  obtain ⟨q', c', e, h1, h2, _, h4⟩ := h.arr tokCell_len
  simp only [Value.slice.injEq] at e
  obtain ⟨rfl, rfl, rfl⟩ := e
  exact ⟨rfl, h1, h2, ArrA.imp h4 fun _ _ _ _ _ h => ⟨h 0 _ rfl, h 1 _ rfl, h 2 _ rfl, h 3 _ rfl⟩⟩

theorem Tryd.eqlTok (k n a k' n' a' : Int) (s s' : ByteArray) (w : World) : (binOp .eql 32 (.agg #[.int .i64 k, .int .i64 n, .int .i64 a, .string s]) (.agg #[.int .i64 k', .int .i64 n', .int .i64 a', .string s'])).run Tryd.prog w = .ok (.bool (k == k' && n == n' && a == a' && s.toList == s'.toList)) w := by
  have hS : Tryd.prog.underlying 32 = some (.struct (Tryd.prog.fieldsOf 32)) := by kernel_rfl
  have hp : Tryd.prog.stoodInHeld 32 = false := by kernel_rfl
  rw [run_eql_struct, show (10000 : Nat) = 9999 + 1 from rfl, run_equalIn_agg w 9999 32 _ _ hS hp]
  simp only [Program.fieldsOf, Tryd.underlying32]
  go_simp
  by_cases h1 : k = k' <;> by_cases h2 : n = n' <;> by_cases h3 : a = a' <;> by_cases h4 : s.toList = s'.toList <;> simp [h1, h2, h3, h4]
theorem Tryd.tokGuard : Tryd.prog.eqGuardType Tryd.prog.depth 32 = false := by kernel_rfl

theorem exLex1 : lexS [83, 69, 76, 69, 67, 84, 32, 97, 60, 61, 49] = .ok [⟨1, 0, 0, [115, 101, 108, 101, 99, 116]⟩, ⟨2, 0, 7, [97]⟩, ⟨6, 0, 8, [60, 61]⟩, ⟨3, 1, 10, []⟩] := by rfl
theorem exLex2 : lexS [39, 105, 116, 39, 39, 115, 39] = .ok [⟨4, 0, 0, [105, 116, 39, 115]⟩] := by rfl
theorem exLex3 : lexS [97, 59] = .err 6 1 := by rfl

set_option maxHeartbeats 2000000 in
theorem ex7_any (C : LexC) (w : World) (hG : GV w) : Calls Tryd.prog 9 #[] w fun e w' => e = .returned (.bool true) ∧ Below w.heap.size w w' := by
  go_enter Tryd.func9, Tryd.ntmps9
  go_wp2_with fail
  refine (C.good ⟨#[83, 69, 76, 69, 67, 84, 32, 97, 60, 61, 49]⟩ _ _ hG (by decide) exLex1).mono ?_
  rintro e w1 ⟨⟨q1, c1, rfl, o1⟩, hb1⟩
  have G1 := hG.on hb1
  obtain ⟨-, k1, k2, a1⟩ := o1.toks
  have A1 := Lib.hid (And.intro a1 hb1)
  have hs1 := hb1.size
  clear o1 a1 hb1
  go_wp2_with fail
  refine (C.good ⟨#[39, 105, 116, 39, 39, 115, 39]⟩ _ _ G1 (by decide) exLex2).mono ?_
  rintro e w2 ⟨⟨q2, c2, rfl, o2⟩, hb2⟩
  have G2 := G1.on hb2
  obtain ⟨-, m1, m2, a2⟩ := o2.toks
  have A2 := Lib.hid (And.intro a2 hb2)
  have hs2 := hb2.size
  clear o2 a2 hb2
  go_wp2_with fail
  refine (C.bad ⟨#[97, 59]⟩ 6 1 _ G2 (by decide) exLex3).mono ?_
  rintro e w3 ⟨⟨q3, c3, rfl⟩, hb3⟩
  have H3 := Lib.hid hb3
  clear hb3
  obtain ⟨g1, f1, rfl, -, hg1, t1⟩ := A1.out.1 0 (by decide)
  obtain ⟨g2, f2, rfl, -, hg2, t2⟩ := A2.out.1 0 (by decide)
  have B13 : Below w1.heap.size w1 w3 := A2.out.2.trans (H3.out.mono hs2)
  have x0 := t1 0 _ rfl
  have x2 := t1 2 _ rfl
  have x3 := t1 3 _ rfl
  have y0 := t2 0 _ rfl
  have K : ∀ (g o : Nat) (v : Value), g < w1.heap.size → w1.cell? ⟨g, o, none⟩ = some v → w3.cell? ⟨g, o, none⟩ = some v := fun g o v hg h => (B13.cell (p := ⟨g, o, none⟩) hg).trans h
  have K2 : ∀ (g o : Nat) (v : Value), g < w2.heap.size → w2.cell? ⟨g, o, none⟩ = some v → w3.cell? ⟨g, o, none⟩ = some v := fun g o v hg h => (H3.out.cell (p := ⟨g, o, none⟩) hg).trans h
  have v0 := K _ _ _ hg1 x0.c0
  have v1 := K _ _ _ hg1 x0.c1
  have v2 := K _ _ _ hg1 x0.c2
  have v3 := K _ _ _ hg1 x0.c3
  have u0 := K _ _ _ hg1 x2.c0
  have u1 := K _ _ _ hg1 x2.c1
  have u2 := K _ _ _ hg1 x2.c2
  have u3 := K _ _ _ hg1 x2.c3
  have z1 := K _ _ _ hg1 x3.c1
  have y3 := K2 _ _ _ hg2 y0.c3
  simp only [Nat.zero_mul, Nat.add_zero, Nat.reduceMul] at v0 v1 v2 v3 u0 u1 u2 u3 z1 y3
  have heq1 := fun w => Tryd.eqlTok 1 0 0 1 0 0 ⟨#[115, 101, 108, 101, 99, 116]⟩ ⟨#[115, 101, 108, 101, 99, 116]⟩ w
  have heq2 := fun w => Tryd.eqlTok 6 0 8 6 0 8 ⟨#[60, 61]⟩ ⟨#[60, 61]⟩ w
  simp only [beq_self_eq_true, Bool.and_self] at heq1 heq2
  have hg := Tryd.tokGuard
  have BE := Lib.hid (A1.out.2.trans (B13.mono hs1))
  clear x0 x2 x3 y0 K K2 t1 t2 B13 A1 A2 H3 hs1 hs2
  go_wp2_with fail
  go_ret
  exact ⟨rfl, BE.out⟩

end Go.Proofs.YtejfjlbnehdgnaaDoor
