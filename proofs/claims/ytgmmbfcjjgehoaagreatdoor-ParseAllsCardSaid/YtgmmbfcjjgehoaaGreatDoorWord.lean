/- A text as an argument, opened, and how long it may be (as XStO has it, alone: for seats that lack that file's types). -/
import Derived.Test.YtgmmbfcjjgehoaaGreatDoorFrame
import Derived.Deep.Slices
import Derived.Deep.Strs
import Derived.SizedLaws
namespace Go.Proofs.YtgmmbfcjjgehoaaGreatDoor
open Go.ChangeShapes Go.WideShapes Go.ChangeAt Go.RowKit Go.Joins Go.Deep
set_option maxRecDepth 100000

section
variable {H : Type} {enc : TypeId × Value → H}
/-- A text, and how long it may be. -/
theorem open_word6 {r : Reach} {b0 base : Nat} {W : World} {spare : Nat → Bool} {held : Bool} {v : Value} {d : DataW H} {p : List MemPlace} (hv : Value.okWide Tryz.prog W r b0 9 v) (h : DataW.Trod enc Tryz.prog W base spare held 9 v d p) (hz : ∀ n ∈ d.weights Tryz.prog 9, n ≤ reachBytes) :
    ∃ s : ByteArray, v = .string s ∧ s.size ≤ reachBytes := by
  obtain ⟨s, rfl⟩ := okWide_string Tryz.underlying9 hv
  obtain ⟨fuel, hf⟩ := h
  obtain ⟨s', h', hd, _⟩ := DataW.trod_string Tryz.underlying9 hf
  simp [Value.cells] at h'
  subst h'
  refine ⟨s, rfl, ?_⟩
  simp only [Prod.mk.injEq] at hd
  have := hz s.data.toList.length (by rw [hd.1]; simp [DataW.weights])
  rwa [Array.length_toList] at this
end

end Go.Proofs.YtgmmbfcjjgehoaaGreatDoor
