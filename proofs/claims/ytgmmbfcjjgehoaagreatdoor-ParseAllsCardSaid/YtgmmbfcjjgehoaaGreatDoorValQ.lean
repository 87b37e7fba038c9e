/- Two values, compared by the language itself. -/
import Derived.Test.YtgmmbfcjjgehoaaGreatDoorVal
import Derived.Laws.StructEq
import Derived.BigQuiet
namespace Go.Proofs.YtgmmbfcjjgehoaaGreatDoor
open Go.RowKit
set_option maxRecDepth 100000

theorem Tryz.eqlVal (a b : Val) (w : World) : (binOp .eql 49 (.agg #[.int .i64 a.k, .int .i64 a.n, .string a.s]) (.agg #[.int .i64 b.k, .int .i64 b.n, .string b.s])).run Tryz.prog w = .ok (.bool (a.k == b.k && a.n == b.n && a.s.toList == b.s.toList)) w := by
  have hS : Tryz.prog.underlying 49 = some (.struct (Tryz.prog.fieldsOf 49)) := by kernel_rfl
  have hp : Tryz.prog.stoodInHeld 49 = false := by kernel_rfl
  rw [run_eql_struct, show (10000 : Nat) = 9999 + 1 from rfl, run_equalIn_agg w 9999 49 _ _ hS hp]
  simp only [Program.fieldsOf, Tryz.underlying49]
  go_simp
  by_cases h1 : a.k = b.k <;> by_cases h2 : a.n = b.n <;> by_cases h3 : a.s.toList = b.s.toList <;> simp [h1, h2, h3]
theorem Tryz.neqVal5 (a b : Val) (w : World) : (binOp .neq 49 (.agg #[.int .i64 a.k, .int .i64 a.n, .string a.s]) (.agg #[.int .i64 b.k, .int .i64 b.n, .string b.s])).run Tryz.prog w = .ok (.bool (!(a.k == b.k && a.n == b.n && a.s.toList == b.s.toList))) w := by
  have hS : Tryz.prog.underlying 49 = some (.struct (Tryz.prog.fieldsOf 49)) := by kernel_rfl
  have hp : Tryz.prog.stoodInHeld 49 = false := by kernel_rfl
  rw [run_neq_struct, show (10000 : Nat) = 9999 + 1 from rfl, run_equalIn_agg w 9999 49 _ _ hS hp]
  simp only [Program.fieldsOf, Tryz.underlying49]
  go_simp
  by_cases h1 : a.k = b.k <;> by_cases h2 : a.n = b.n <;> by_cases h3 : a.s.toList = b.s.toList <;> simp [h1, h2, h3]
theorem Tryz.eqlNul (w : World) : (binOp .eql 49 (.agg #[.int .i64 0, .int .i64 0, .string ⟨#[]⟩]) (.agg #[.int .i64 0, .int .i64 0, .string ⟨#[]⟩])).run Tryz.prog w = .ok (.bool true) w := by
  have h := Tryz.eqlVal ⟨0, 0, ⟨#[]⟩⟩ ⟨0, 0, ⟨#[]⟩⟩ w
  rw [h]
  simp
theorem Tryz.eqGuard5 : Tryz.prog.eqGuardType Tryz.prog.depth 49 = false := by kernel_rfl

theorem Tryz.eqInVal (a b : Val) (w : World) : (Op.equalIn 10000 49 (.agg #[.int .i64 a.k, .int .i64 a.n, .string a.s]) (.agg #[.int .i64 b.k, .int .i64 b.n, .string b.s])).run Tryz.prog w = .ok (a.k == b.k && a.n == b.n && a.s.toList == b.s.toList) w := by
  have hS : Tryz.prog.underlying 49 = some (.struct (Tryz.prog.fieldsOf 49)) := by kernel_rfl
  have hp : Tryz.prog.stoodInHeld 49 = false := by kernel_rfl
  rw [show (10000 : Nat) = 9999 + 1 from rfl, run_equalIn_agg w 9999 49 _ _ hS hp]
  simp only [Program.fieldsOf, Tryz.underlying49]
  go_simp
  by_cases h1 : a.k = b.k <;> by_cases h2 : a.n = b.n <;> by_cases h3 : a.s.toList = b.s.toList <;> simp [h1, h2, h3]

/-- '==' at two structs, in a region that draws its order and only reads. -/
theorem quiet_eql {C : World → Prop} {K : Act → Prop} {o : Oper} {a : Act} (x y : Operand) (T ty : TypeId) (ho : o.op = .binOp .eql T x y ty) (us vs : Array Value) (b : Bool) (hx : a.eval x = .agg us) (hy : a.eval y = .agg vs) (hg : Tryz.prog.eqGuardType Tryz.prog.depth T = false)
    (heq : ∀ w, (binOp .eql T (.agg us) (.agg vs)).run Tryz.prog w = .ok (.bool b) w) (hk : K (a.put o.dst (.bool b))) : o.quiet Tryz.prog a C K :=
  ⟨.bool b, fun w _ => by
    have h1 : (eqGuard .eql T x y (.agg us) (.agg vs)).run Tryz.prog w = .ok () w := run_eqGuard_agg w .eql T x y us vs hg
    have h : (execOp a.eval o).run Tryz.prog w = .ok (.value (.bool b)) w := by
      unfold execOp
      simp only [ho, hx, hy, Sem.run_bind, h1, Result.andThen_ok, heq, Sem.run_pure]
    unfold Oper.quietAt
    rw [h]
    exact ⟨rfl, rfl⟩, hk⟩

end Go.Proofs.YtgmmbfcjjgehoaaGreatDoor
