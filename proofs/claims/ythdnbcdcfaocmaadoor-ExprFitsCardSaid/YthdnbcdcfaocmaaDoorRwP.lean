/- Arguments that are rows, or a row, opened: where the values lie, that each fits its cells, and the form's own reach. -/
import Derived.Test.YthdnbcdcfaocmaaDoorRwO
namespace Go.Proofs.YthdnbcdcfaocmaaDoor
open Go.ChangeShapes Go.WideShapes Go.ChangeAt Go.RowKit Go.Joins Go.Deep
set_option maxRecDepth 100000

section
variable {H : Type} {enc : TypeId × Value → H}
theorem Tryd.bytesVal8 : Tryd.prog.bytesOf 23 = 32 := by kernel_rfl
theorem Tryd.bytesRow8 : Tryd.prog.bytesOf 46 = 24 := by kernel_rfl
theorem open_valsD {W : World} {base fuel : Nat} {spare : Nat → Bool} {held : Bool} {cs : List Value} {y : DataW H × List MemPlace} (hf : DataW.trod enc Tryd.prog W base spare held fuel 46 cs = some y) (hz : ∀ n ∈ y.1.weights Tryd.prog 46, n ≤ reachBytes) :
    ∃ (q : Option Addr) (l : List Val) (c : Nat), cs = [.slice q l.length c] ∧ l.length ≤ c ∧ c ≤ 9223372036854775807 ∧ ValsA W 0 W.heap.size q l ∧ (∀ x ∈ l, okVal x) ∧ l.length * 32 ≤ reachBytes := by
  obtain ⟨q, l, c, h1, h2, h3, h4, h5, h6⟩ := open_arr Tryd.underlying46 Tryd.cellsVal (by omega) (valC W) okVal hf hz (fun cs y n htr _ g o hk => by
    obtain ⟨x, rfl, e1, e2, e3⟩ := cells_val htr
    exact ⟨x, ⟨hk 0 _ (by omega) rfl, hk 1 _ (by omega) rfl, hk 2 _ (by omega) rfl⟩, e1, e2, e3⟩)
  rw [Tryd.bytesVal8] at h4
  exact ⟨q, l, c, h1, h2, h3, h5, h6, h4⟩
/-- An argument that is a row, opened. -/
theorem open_row9 {W : World} {spare : Nat → Bool} {held : Bool} {r : Reach} {b0 base : Nat} {v : Value} {d : DataW H} {p : List MemPlace} (hv : Value.okWide Tryd.prog W r b0 46 v) (h : DataW.Trod enc Tryd.prog W base spare held 46 v d p) (hz : ∀ n ∈ d.weights Tryd.prog 46, n ≤ reachBytes) :
    ∃ (q : Option Addr) (l : List Val) (c : Nat), v = .slice q l.length c ∧ l.length ≤ c ∧ c ≤ 9223372036854775807 ∧ ValsA W 0 W.heap.size q l ∧ (∀ x ∈ l, okVal x) ∧ l.length * 32 ≤ reachBytes := by
  obtain ⟨a0, len, cap, rfl⟩ := okWide_slice Tryd.underlying46 hv
  obtain ⟨fuel, hf⟩ := h
  obtain ⟨q, l, c, h1, h2, h3, h5, h6, h7⟩ := open_valsD hf hz
  simp [Value.cells] at h1
  obtain ⟨rfl, rfl, rfl⟩ := h1
  exact ⟨_, l, _, rfl, h2, h3, h5, h6, h7⟩
/-- An argument that is a list of rows, opened. -/
theorem open_rows9 {W : World} {spare : Nat → Bool} {held : Bool} {r : Reach} {b0 base : Nat} {v : Value} {d : DataW H} {p : List MemPlace} (hv : Value.okWide Tryd.prog W r b0 45 v) (h : DataW.Trod enc Tryd.prog W base spare held 45 v d p) (hz : ∀ n ∈ d.weights Tryd.prog 45, n ≤ reachBytes) :
    ∃ (q : Option Addr) (l : List (List Val)) (c : Nat), v = .slice q l.length c ∧ l.length ≤ c ∧ c ≤ 9223372036854775807 ∧ RowsA W 0 W.heap.size q l ∧ (∀ r ∈ l, (∀ x ∈ r, okVal x) ∧ r.length * 32 ≤ reachBytes) ∧ l.length * 24 ≤ reachBytes := by
  have hC : Tryd.prog.cellsOf 46 = 1 := by kernel_rfl
  obtain ⟨a0, len, cap, rfl⟩ := okWide_slice Tryd.underlying45 hv
  obtain ⟨fuel, hf⟩ := h
  obtain ⟨q, l, c, h1, h2, h3, h4, h5, h6⟩ := open_arr Tryd.underlying45 hC (by omega) (rowC W 0 W.heap.size) (fun r => (∀ x ∈ r, okVal x) ∧ r.length * 32 ≤ reachBytes) hf hz (fun cs y n htr hw g o hk => by
    obtain ⟨q, l, c, rfl, a, b, d, e, f⟩ := open_valsD htr hw
    exact ⟨l, ⟨q, c, hk 0 _ (by omega) rfl, a, b, d⟩, e, f⟩)
  rw [Tryd.bytesRow8] at h4
  simp [Value.cells] at h1
  obtain ⟨rfl, rfl, rfl⟩ := h1
  exact ⟨_, l, _, rfl, h2, h3, h5, h6, h4⟩
end

end Go.Proofs.YthdnbcdcfaocmaaDoor
