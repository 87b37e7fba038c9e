/- Two values, compared by the language itself. -/
import Derived.Test.YtejfjlbnehdgnaaDoorVal
import Derived.Laws.StructEq
import Derived.BigQuiet
namespace Go.Proofs.YtejfjlbnehdgnaaDoor
open Go.RowKit
set_option maxRecDepth 100000

/-- '==' at two structs, in a region that draws its order and only reads. -/
theorem quiet_eql {C : World → Prop} {K : Act → Prop} {o : Oper} {a : Act} (x y : Operand) (T ty : TypeId) (ho : o.op = .binOp .eql T x y ty) (us vs : Array Value) (b : Bool) (hx : a.eval x = .agg us) (hy : a.eval y = .agg vs) (hg : Tryd.prog.eqGuardType Tryd.prog.depth T = false)
    (heq : ∀ w, (binOp .eql T (.agg us) (.agg vs)).run Tryd.prog w = .ok (.bool b) w) (hk : K (a.put o.dst (.bool b))) : o.quiet Tryd.prog a C K :=
  ⟨.bool b, fun w _ => by
    have h1 : (eqGuard .eql T x y (.agg us) (.agg vs)).run Tryd.prog w = .ok () w := run_eqGuard_agg w .eql T x y us vs hg
    have h : (execOp a.eval o).run Tryd.prog w = .ok (.value (.bool b)) w := by
      unfold execOp
      simp only [ho, hx, hy, Sem.run_bind, h1, Result.andThen_ok, heq, Sem.run_pure]
    unfold Oper.quietAt
    rw [h]
    exact ⟨rfl, rfl⟩, hk⟩

end Go.Proofs.YtejfjlbnehdgnaaDoor
