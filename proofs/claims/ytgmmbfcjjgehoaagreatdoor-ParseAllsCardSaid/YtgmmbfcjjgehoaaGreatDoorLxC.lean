/- What Lex answers, put down as two sentences (to be shown of the code); tokens in memory; the chapter's examples. -/
import Derived.Test.YtgmmbfcjjgehoaaGreatDoorLxU
import Derived.Test.YtgmmbfcjjgehoaaGreatDoorGv
import Derived.Test.YtgmmbfcjjgehoaaGreatDoorFlat2
import Derived.Test.YtgmmbfcjjgehoaaGreatDoorValA
namespace Go.Proofs.YtgmmbfcjjgehoaaGreatDoor
open Go.RowKit
set_option maxRecDepth 100000

abbrev tokCell (t : Tok) : List Value := [.int .i64 (t.kd : Int), .int .i64 (t.n : Int), .int .i64 (t.at_ : Int), .string (bsB t.s)]
theorem tokCell_len (t : Tok) : (tokCell t).length = 4 := rfl
theorem tokCell_one (t : Tok) (u : Value) (h : u ∈ tokCell t) : u.oneCell' = true := by simp at h; rcases h with rfl | rfl | rfl | rfl <;> rfl

structure LexC : Prop where
  good : ∀ (s : ByteArray) (L : List Tok) (w : World), GV w → s.size ≤ 9223372036854775807 → lexS s.data.toList = .ok L →
    Calls Tryz.prog 12 #[.string s] w fun e w' => (∃ q c, e = .returned (.tuple #[.slice q L.length c, .int .i64 0, .int .i64 0]) ∧ OwnF w' w.heap.size 62 4 tokCell (.slice q L.length c) L) ∧ Below w.heap.size w w'
  bad : ∀ (s : ByteArray) (er a : Nat) (w : World), GV w → s.size ≤ 9223372036854775807 → lexS s.data.toList = .err er a →
    Calls Tryz.prog 12 #[.string s] w fun e w' => (∃ q c, e = .returned (.tuple #[.slice q 0 c, .int .i64 (er : Int), .int .i64 (a : Int)])) ∧ Below w.heap.size w w'

/-- Tokens as they are read. -/
structure TokC (w : World) (g o : Nat) (t : Tok) : Prop where
  c0 : w.cell? ⟨g, o, none⟩ = some (.int .i64 (t.kd : Int))
  c1 : w.cell? ⟨g, o + 1, none⟩ = some (.int .i64 (t.n : Int))
  c2 : w.cell? ⟨g, o + 2, none⟩ = some (.int .i64 (t.at_ : Int))
  c3 : w.cell? ⟨g, o + 3, none⟩ = some (.string (bsB t.s))
/-- A slice of tokens: its parts. -/
theorem OwnF.toks {w : World} {base : Nat} {q : Option Addr} {n c : Nat} {L : List Tok} (h : OwnF w base 62 4 tokCell (.slice q n c) L) : n = L.length ∧ L.length ≤ c ∧ c ≤ 9223372036854775807 ∧ ArrA base w.heap.size q 4 L (TokC w) := by
  obtain ⟨q', c', e, h1, h2, _, h4⟩ := h.arr tokCell_len
  simp only [Value.slice.injEq] at e
  obtain ⟨rfl, rfl, rfl⟩ := e
  exact ⟨rfl, h1, h2, ArrA.imp h4 fun _ _ _ _ _ h => ⟨h 0 _ rfl, h 1 _ rfl, h 2 _ rfl, h 3 _ rfl⟩⟩

theorem Tryz.eqlTok (k n a k' n' a' : Int) (s s' : ByteArray) (w : World) : (binOp .eql 62 (.agg #[.int .i64 k, .int .i64 n, .int .i64 a, .string s]) (.agg #[.int .i64 k', .int .i64 n', .int .i64 a', .string s'])).run Tryz.prog w = .ok (.bool (k == k' && n == n' && a == a' && s.toList == s'.toList)) w := by
  have hS : Tryz.prog.underlying 62 = some (.struct (Tryz.prog.fieldsOf 62)) := by kernel_rfl
  have hp : Tryz.prog.stoodInHeld 62 = false := by kernel_rfl
  rw [run_eql_struct, show (10000 : Nat) = 9999 + 1 from rfl, run_equalIn_agg w 9999 62 _ _ hS hp]
  simp only [Program.fieldsOf, Tryz.underlying62]
  go_simp
  by_cases h1 : k = k' <;> by_cases h2 : n = n' <;> by_cases h3 : a = a' <;> by_cases h4 : s.toList = s'.toList <;> simp [h1, h2, h3, h4]
theorem Tryz.tokGuard : Tryz.prog.eqGuardType Tryz.prog.depth 62 = false := by kernel_rfl

theorem exLex1 : lexS [83, 69, 76, 69, 67, 84, 32, 97, 60, 61, 49] = .ok [⟨1, 0, 0, [115, 101, 108, 101, 99, 116]⟩, ⟨2, 0, 7, [97]⟩, ⟨6, 0, 8, [60, 61]⟩, ⟨3, 1, 10, []⟩] := by rfl
theorem exLex2 : lexS [39, 105, 116, 39, 39, 115, 39] = .ok [⟨4, 0, 0, [105, 116, 39, 115]⟩] := by rfl
theorem exLex3 : lexS [97, 59] = .err 6 1 := by rfl

end Go.Proofs.YtgmmbfcjjgehoaaGreatDoor
