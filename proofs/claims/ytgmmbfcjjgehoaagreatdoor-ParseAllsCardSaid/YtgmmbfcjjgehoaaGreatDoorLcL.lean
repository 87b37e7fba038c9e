/- The row's condition on the package-level variables: a world that meets it, and what it gives. -/
import Derived.Test.YtgmmbfcjjgehoaaGreatDoorFrame
import Derived.Test.YtgmmbfcjjgehoaaGreatDoorGv
import Derived.Test.YtgmmbfcjjgehoaaGreatDoorCards
import Derived.Test.YtgmmbfcjjgehoaaGreatDoorTie
import Derived.Lay
import Derived.LaidMore
import Derived.OpenShut
import Derived.SevenTiedAt
import Derived.Stop.Joined
import Derived.SizedLaws
namespace Go.Proofs.YtgmmbfcjjgehoaaGreatDoor
open Go.ChangeShapes Go.WideShapes Go.ChangeAt Go.RowKit Go.Joins
set_option maxRecDepth 100000

noncomputable abbrev laidVars : List (String × DataW Unit) := Rows.parseReadsRow.laid -- 3

theorem wit_shaped (os : Os) (args : Array Value) : ((World.laidAll Tryz.prog os laidVars).forCall (fun _ _ => 0) ⟨#[], args, []⟩).Shaped Tryz.prog := World.shaped_of_ZipB (by kernel_rfl) (by kernel_rfl)
theorem wit_met (os : Os) (args : Array Value) : laidMetH Tryz.prog laidVars ((World.laidAll Tryz.prog os laidVars).forCall (fun _ _ => 0) ⟨#[], args, []⟩).memory := by
  rw [MakeChecks.laidMetH_plain _ _ _ (by kernel_rfl)]
  exact laidMet_laidAll _ (by kernel_rfl) (by kernel_rfl)

theorem var_lt {W : World} {n : String} {d : DataW Unit} {g : Nat} (h : Lib.VarReads Tryz.prog W n d) (hg : Tryz.prog.globalNamed n = some g) : g < W.heap.size := by
  obtain ⟨g', t, cs, fuel, p, hg', ht, hv, hd⟩ := h
  obtain rfl := Option.some.inj (hg.symm.trans hg')
  unfold World.var? at hv
  simp only [hg, Option.bind_some] at hv
  rcases Nat.lt_or_ge g W.heap.size with h | h
  · exact h
  · simp [Array.getElem?_eq_none h] at hv
theorem GV.of_laid {W : World} (hL : laidMetH Tryz.prog laidVars W) : GV W := by
  rw [MakeChecks.laidMetH_plain _ _ _ (by kernel_rfl)] at hL
  have h1 : Lib.VarReads Tryz.prog W "math/bits.deBruijn64tab" Rows.laid_math_bits_deBruijn64tab := Lib.laidMet.reads hL (List.mem_of_getElem? (i := 1) rfl)
  have hlt := var_lt h1 (g := 11) (by kernel_rfl)
  exact GV.of_reads (by omega) (Lib.laidMet.reads hL (List.mem_of_getElem? (i := 8) rfl)) (Lib.laidMet.reads hL (List.mem_of_getElem? (i := 7) rfl)) (Lib.laidMet.reads hL (List.mem_of_getElem? (i := 4) rfl))

end Go.Proofs.YtgmmbfcjjgehoaaGreatDoor
