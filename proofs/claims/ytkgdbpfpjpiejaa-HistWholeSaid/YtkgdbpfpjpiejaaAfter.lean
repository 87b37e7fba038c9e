/- A region that draws its order, whose own operations only read, and whose callees may make memory of their own: one walk, in the order of the text, serves every order. -/
import Derived.Test.YtkgdbpfpjpiejaaVal
import Derived.Deep.Quiet
import Derived.Deep.QuietTactic
import Derived.BigQuiet
namespace Go.Proofs.Ytkgdbpfpjpiejaa
open Go.RowKit

/-- A world in which nothing that was there in G has changed. -/
structure After (G : World) where
  W : World
  below : Below G.heap.size G W

theorem After.some (G : World) : Nonempty (After G) := ⟨⟨G, Below.refl _ _⟩⟩

theorem After.cell {G : World} (x : After G) (b o : Nat) (h : b < G.heap.size) : x.W.cell? ⟨b, o, none⟩ = G.cell? ⟨b, o, none⟩ := x.below.cell (p := ⟨b, o, none⟩) h

theorem wp_region_after {P : Program} {id : Nat} {Q : Exit → Act → World → Prop} {a : Act} {w : World} {l : List Oper} (hm : P.follows .mixedOrders = true) (hB : Region.lexB .any l.toArray = true)
    (h : wpQuiet P l.toArray (fun w' => ∃ x : After w, w' = x.W) (fun a' => ∀ w', (∃ x : After w, w' = x.W) → Q .normal a' w') l a) : (Code.region id l.toArray true).wp P Q a w :=
  wp_region_quiet (C := fun w' => ∃ x : After w, w' = x.W) hm hB ⟨⟨w.drew, (Below.refl _ _).drew⟩, rfl⟩ (by simpa using h)

theorem calls_after {P : Program} {f : FuncId} {args : Array Value} {G : World} {x : After G} {v : Value} (h : Calls P f args x.W fun e w' => e = .returned v ∧ Below x.W.heap.size x.W w') :
    Calls P f args x.W fun e w'' => e = .returned v ∧ ∃ y : After G, w'' = y.W :=
  h.mono fun _ w' ⟨he, hb⟩ => ⟨he, ⟨w', x.below.trans (hb.mono x.below.size)⟩, rfl⟩

end Go.Proofs.Ytkgdbpfpjpiejaa
