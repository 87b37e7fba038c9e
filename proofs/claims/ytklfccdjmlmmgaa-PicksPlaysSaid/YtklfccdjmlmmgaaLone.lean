/- Channels in one goroutine: a call on the way, met by its contract. -/
import Derived.Test.YtklfccdjmlmmgaaVal
import Derived.Conc.LoneCalls
import Derived.Conc.LoneSelect
import Derived.Conc.LoneSelectN
import Derived.KernelRfl
namespace Go.Proofs.Ytklfccdjmlmmgaa
open Go.Conc Go.RowKit

theorem LoneTo.mono_ {P : Program} {Q Q' : Goroutine → World → Prop} {g : Goroutine} {w : World} (h : LoneTo P Q g w) (hq : ∀ g' w', Q g' w' → Q' g' w') : LoneTo P Q' g w := by
  obtain ⟨g', w', hs, h⟩ := h
  exact ⟨g', w', hs, hq _ _ h⟩

/-- A call of a function with a contract: the walk goes on behind it. -/
theorem LoneTo.call {P : Program} {Q : Goroutine → World → Prop} {b : Frame} {a : Act} {ops : Array Oper} {i : Nat} {rest : List Nat} {k : List Item} {cs : List Frame} {w : World} {o : Oper} {f : FuncId} {fn : Func} {c : Code} {args : Array Operand} {ats : Array TypeId} {vs : Array Value} {R : Ending → World → Prop}
    (ho : ops[i]? = some o) (hw : Region.wanted o (yielded ops a.tmps) = true) (hk : b.kind ≠ .early) (hop : o.op = .call { callee := .value (.func f), args, argTypes := ats })
    (hf : P.funcs[f]? = some fn) (hname : (fn.name == "runtime.NumGoroutine") = false) (hb : fn.body = some c) (hv : args.map a.eval = vs) (hC : Calls P f vs w R)
    (hr : ∀ e w', R e w' → ∃ v, e = .returned v ∧ LoneTo P Q (G (b.at (a.put ((ops[i]?).bind (·.dst)) v) (.inRegion ops rest :: k)) cs) w') :
    LoneTo P Q (G (b.at a (.inRegion ops (i :: rest) :: k)) cs) w := by
  refine LoneTo.goes (n := 1) ?_
  refine Goes.step rfl (fun _ h₁ => ?_)
  subst h₁
  refine goes_call ho hw hk hop hf hname hb ⟨trivial, ?_⟩
  s_stop
  obtain ⟨e, w', fr, hR, hs, _, hl⟩ := hC (b.at a (.inRegion ops (i :: rest) :: k) :: cs)
  obtain ⟨v, rfl, g2, w2, hs2, hq⟩ := hr e w' hR
  refine ⟨g2, w2, ?_, hq⟩
  rw [← hv, enter_at _ hf hb] at hs
  refine Steps.trans hs (Steps.head (step_leave_returned hl) ?_)
  rw [Frame.finish_at]
  exact hs2

end Go.Proofs.Ytklfccdjmlmmgaa
