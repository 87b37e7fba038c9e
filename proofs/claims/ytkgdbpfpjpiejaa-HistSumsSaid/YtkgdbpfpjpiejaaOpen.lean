/- An argument that is a list of values, opened: each element's three cells. -/
import Derived.Test.YtkgdbpfpjpiejaaFrame
import Derived.Deep.Slices
import Derived.Deep.Strs
namespace Go.Proofs.Ytkgdbpfpjpiejaa
open Go.ChangeShapes Go.WideShapes Go.ChangeAt Go.RowKit Go.Joins Go.Deep
set_option maxRecDepth 100000

/-- From the address a on lie n values, one behind the other. -/
structure Vals (W : World) (a : Addr) (n : Nat) (x : Nat → Val) : Prop where
  c0 : ∀ i, i < n → W.cell? (a.add (i * 3)) = some (.int .i64 (x i).k)
  c1 : ∀ i, i < n → W.cell? (a.add (i * 3 + 1)) = some (.int .i64 (x i).n)
  c2 : ∀ i, i < n → W.cell? (a.add (i * 3 + 2)) = some (.string (x i).s)
  fit : ∀ i, i < n → inR (x i).k = true ∧ inR (x i).n = true ∧ (x i).s.size ≤ maxLen

instance : Inhabited Val := ⟨nul⟩

section
variable {H : Type} {enc : TypeId × Value → H}

/-- Three cells that read as a value. -/
theorem cells_val {W : World} {base n : Nat} {spare : Nat → Bool} {held : Bool} {cs : List Value} {y : DataW H × List MemPlace} (h : DataW.trod enc Try.prog W base spare held n 31 cs = some y) :
    ∃ x : Val, cs = [.int .i64 x.k, .int .i64 x.n, .string x.s] ∧ inR x.k = true ∧ inR x.n = true ∧ x.s.size ≤ maxLen := by
  obtain ⟨y0, y1, y2, m, _, hl, h0, h1, h2⟩ := trod_struct3 Try.underlying31 h
  rw [Try.cellsVal] at hl
  match cs, hl with
  | [v0, v1, v2], _ =>
    obtain ⟨a, e0, _, wa⟩ := DataW.trod_int Try.underlying3 h0
    obtain ⟨b, e1, _, wb⟩ := DataW.trod_int Try.underlying3 h1
    obtain ⟨s, e2, _, hs⟩ := DataW.trod_string Try.underlying9 h2
    have k3 : Try.prog.cellsOf 3 = 1 := by kernel_rfl
    have k9 : Try.prog.cellsOf 9 = 1 := by kernel_rfl
    simp [k3, k9] at e0 e1 e2
    subst e0 e1 e2
    refine ⟨⟨a, b, s⟩, rfl, ?_, ?_, hs⟩
    · simpa [inR, Lit.wf, IntKind.min, IntKind.signed, IntKind.bits] using wa
    · simpa [inR, Lit.wf, IntKind.min, IntKind.signed, IntKind.bits] using wb

end

end Go.Proofs.Ytkgdbpfpjpiejaa
