/- What Lex answers, put down as one sentence; two tokens compared by the language itself; a token in a block of its own. (Over the contract of Lex.) -/
import Derived.Test.YtejfjlbnehdgnaaDoorLxD
import Derived.Test.YtejfjlbnehdgnaaDoorValQ
namespace Go.Proofs.YtejfjlbnehdgnaaDoor
open Go.RowKit
set_option maxRecDepth 100000

/-- Whatever Lex answers. -/
theorem lex_any (C : LexC) (s : ByteArray) (w : World) (hG : GV w) (hs : s.size ≤ 9223372036854775807) :
    Calls Tryd.prog 11 #[.string s] w fun e w' => (∃ q n c er a, e = .returned (.tuple #[.slice q n c, .int .i64 er, .int .i64 a])) ∧ Below w.heap.size w w' := by
  cases h : lexS s.data.toList with
  | ok L =>
    refine (C.good s L w hG hs h).mono ?_
    rintro e w' ⟨⟨q, c, rfl, -⟩, hb⟩
    exact ⟨⟨_, _, _, _, _, rfl⟩, hb⟩
  | err er a =>
    refine (C.bad s er a w hG hs h).mono ?_
    rintro e w' ⟨⟨q, c, rfl⟩, hb⟩
    exact ⟨⟨_, _, _, _, _, rfl⟩, hb⟩
def Res.list : Res → List Tok
  | .ok L => L
  | .err _ _ => []
def Res.er : Res → Nat
  | .ok _ => 0
  | .err e _ => e
def Res.pl : Res → Nat
  | .ok _ => 0
  | .err _ a => a
theorem lex_res (C : LexC) (s : ByteArray) (w : World) (hG : GV w) (hs : s.size ≤ 9223372036854775807) (r : Res) (hr : lexS s.data.toList = r) :
    Calls Tryd.prog 11 #[.string s] w fun e w' => (∃ q c, e = .returned (.tuple #[.slice q r.list.length c, .int .i64 (r.er : Int), .int .i64 (r.pl : Int)]) ∧ r.list.length ≤ 400 ∧ ArrA w.heap.size w'.heap.size q 4 r.list (TokC w')) ∧ Below w.heap.size w w' := by
  cases r with
  | ok L =>
    refine (C.good s L w hG hs hr).mono ?_
    rintro e w' ⟨⟨q, c, rfl, ho⟩, hb⟩
    obtain ⟨-, k1, k2, hA⟩ := ho.toks
    exact ⟨⟨q, c, rfl, by have := lexL_most _ 0 0 L (by omega) (lexS_ok hr).2; show L.length ≤ 400; omega, hA⟩, hb⟩
  | err er a =>
    refine (C.bad s er a w hG hs hr).mono ?_
    rintro e w' ⟨⟨q, c, rfl⟩, hb⟩
    exact ⟨⟨q, c, rfl, Nat.zero_le _, fun i hi => absurd hi (Nat.not_lt_zero _)⟩, hb⟩
theorem Tryd.neqTok (k n a k' n' a' : Int) (s s' : ByteArray) (w : World) : (binOp .neq 32 (.agg #[.int .i64 k, .int .i64 n, .int .i64 a, .string s]) (.agg #[.int .i64 k', .int .i64 n', .int .i64 a', .string s'])).run Tryd.prog w = .ok (.bool (!(k == k' && n == n' && a == a' && s.toList == s'.toList))) w := by
  have hS : Tryd.prog.underlying 32 = some (.struct (Tryd.prog.fieldsOf 32)) := by kernel_rfl
  have hp : Tryd.prog.stoodInHeld 32 = false := by kernel_rfl
  rw [run_neq_struct, show (10000 : Nat) = 9999 + 1 from rfl, run_equalIn_agg w 9999 32 _ _ hS hp]
  simp only [Program.fieldsOf, Tryd.underlying32]
  go_simp
  by_cases h1 : k = k' <;> by_cases h2 : n = n' <;> by_cases h3 : a = a' <;> by_cases h4 : s.toList = s'.toList <;> simp [h1, h2, h3, h4]
theorem Tryd.sameTok (k n a : Int) (s : ByteArray) (w : World) : (binOp .neq 32 (.agg #[.int .i64 k, .int .i64 n, .int .i64 a, .string s]) (.agg #[.int .i64 k, .int .i64 n, .int .i64 a, .string s])).run Tryd.prog w = .ok (.bool false) w := by
  rw [Tryd.neqTok]
  simp
theorem quiet_neq {C : World → Prop} {K : Act → Prop} {o : Oper} {a : Act} (x y : Operand) (T ty : TypeId) (ho : o.op = .binOp .neq T x y ty) (us vs : Array Value) (b : Bool) (hx : a.eval x = .agg us) (hy : a.eval y = .agg vs) (hg : Tryd.prog.eqGuardType Tryd.prog.depth T = false)
    (heq : ∀ w, (binOp .neq T (.agg us) (.agg vs)).run Tryd.prog w = .ok (.bool b) w) (hk : K (a.put o.dst (.bool b))) : o.quiet Tryd.prog a C K :=
  ⟨.bool b, fun w _ => by
    have h1 : (eqGuard .neq T x y (.agg us) (.agg vs)).run Tryd.prog w = .ok () w := run_eqGuard_agg w .neq T x y us vs hg
    have h : (execOp a.eval o).run Tryd.prog w = .ok (.value (.bool b)) w := by
      unfold execOp
      simp only [ho, hx, hy, Sem.run_bind, h1, Result.andThen_ok, heq, Sem.run_pure]
    unfold Oper.quietAt
    rw [h]
    exact ⟨rfl, rfl⟩, hk⟩

/-- A token in a block of its own. -/
theorem tokNew (V : World) (k n a : Int) (s : ByteArray) (T : TypeId) : (V.alloc (.cells #[.int .i64 k, .int .i64 n, .int .i64 a, .string s] T)).cell? ⟨V.heap.size, 0, none⟩ = some (.int .i64 k) ∧ (V.alloc (.cells #[.int .i64 k, .int .i64 n, .int .i64 a, .string s] T)).cell? ⟨V.heap.size, 1, none⟩ = some (.int .i64 n) ∧
    (V.alloc (.cells #[.int .i64 k, .int .i64 n, .int .i64 a, .string s] T)).cell? ⟨V.heap.size, 2, none⟩ = some (.int .i64 a) ∧ (V.alloc (.cells #[.int .i64 k, .int .i64 n, .int .i64 a, .string s] T)).cell? ⟨V.heap.size, 3, none⟩ = some (.string s) ∧
    (∀ o, (V.alloc (.cells #[.int .i64 k, .int .i64 n, .int .i64 a, .string s] T)).frozen? ⟨V.heap.size, o, none⟩ = false) :=
  ⟨by simp [go_sem], by simp [go_sem], by simp [go_sem], by simp [go_sem], fun o => by simp [go_sem]⟩

end Go.Proofs.YtejfjlbnehdgnaaDoor
