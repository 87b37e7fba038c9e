/- An argument that is a list of values, opened: each element's three cells. -/
import Derived.Test.YtiidfghdmaipoaaDoorFrame
import Derived.Deep.Slices
import Derived.Deep.Strs
namespace Go.Proofs.YtiidfghdmaipoaaDoor
open Go.ChangeShapes Go.WideShapes Go.ChangeAt Go.RowKit Go.Joins Go.Deep
set_option maxRecDepth 100000

/-- From the address a on lie n values, one behind the other. -/
structure Vals (W : World) (a : Addr) (n : Nat) (x : Nat → Val) : Prop where
  c0 : ∀ i, i < n → W.cell? (a.add (i * 3)) = some (.int .i64 (x i).k)
  c1 : ∀ i, i < n → W.cell? (a.add (i * 3 + 1)) = some (.int .i64 (x i).n)
  c2 : ∀ i, i < n → W.cell? (a.add (i * 3 + 2)) = some (.string (x i).s)
  fit : ∀ i, i < n → inR (x i).k = true ∧ inR (x i).n = true ∧ (x i).s.size ≤ maxLen

instance : Inhabited Val := ⟨nul⟩

section
variable {H : Type} {enc : TypeId × Value → H}

/-- Three cells that read as a value. -/
theorem cells_val {W : World} {base n : Nat} {spare : Nat → Bool} {held : Bool} {cs : List Value} {y : DataW H × List MemPlace} (h : DataW.trod enc Tryd.prog W base spare held n 23 cs = some y) :
    ∃ x : Val, cs = [.int .i64 x.k, .int .i64 x.n, .string x.s] ∧ inR x.k = true ∧ inR x.n = true ∧ x.s.size ≤ maxLen := by
  obtain ⟨y0, y1, y2, m, _, hl, h0, h1, h2⟩ := trod_struct3 Tryd.underlying23 h
  rw [Tryd.cellsVal] at hl
  match cs, hl with
  | [v0, v1, v2], _ =>
    obtain ⟨a, e0, _, wa⟩ := DataW.trod_int Tryd.underlying3 h0
    obtain ⟨b, e1, _, wb⟩ := DataW.trod_int Tryd.underlying3 h1
    obtain ⟨s, e2, _, hs⟩ := DataW.trod_string Tryd.underlying9 h2
    have k3 : Tryd.prog.cellsOf 3 = 1 := by kernel_rfl
    have k9 : Tryd.prog.cellsOf 9 = 1 := by kernel_rfl
    simp [k3, k9] at e0 e1 e2
    subst e0 e1 e2
    refine ⟨⟨a, b, s⟩, rfl, ?_, ?_, hs⟩
    · simpa [inR, Lit.wf, IntKind.min, IntKind.signed, IntKind.bits] using wa
    · simpa [inR, Lit.wf, IntKind.min, IntKind.signed, IntKind.bits] using wb

theorem open_row_cells {W : World} {spare : Nat → Bool} {held : Bool} {base fuel : Nat} {cs : List Value} {y : DataW H × List MemPlace} (hf : DataW.trod enc Tryd.prog W base spare held fuel 61 cs = some y) :
    cs = [.slice none 0 0] ∨ ∃ (a : Addr) (len cap : Nat) (x : Nat → Val), cs = [.slice (some a) len cap] ∧ base ≤ a.block ∧ len ≤ cap ∧ cap ≤ maxLen ∧ Vals W a (if spare a.block then cap else len) x := by
  rcases open_slice Tryd.underlying61 hf with ⟨hc, _⟩ | ⟨a, len, cap, m, n, D, Pl, hc, hb, hl, hm, hmm, _, hi⟩
  · exact .inl hc
  · right
    have each : ∀ i, i < m → ∃ x : Val, W.cell? (a.add (i * 3)) = some (.int .i64 x.k) ∧ W.cell? (a.add (i * 3 + 1)) = some (.int .i64 x.n) ∧ W.cell? (a.add (i * 3 + 2)) = some (.string x.s) ∧ inR x.k = true ∧ inR x.n = true ∧ x.s.size ≤ maxLen := by
      intro i him
      obtain ⟨cs, hcs, ht⟩ := hi i him
      rw [Tryd.cellsVal] at hcs
      obtain ⟨x, rfl, hk, hn, hs⟩ := cells_val ht
      obtain ⟨_, _, hat⟩ := World.cells?_some hcs
      refine ⟨x, ?_, ?_, ?_, hk, hn, hs⟩
      · have := hat 0 (by omega)
        rw [add_add] at this
        simpa using this
      · have := hat 1 (by omega)
        rw [add_add] at this
        simpa using this
      · have := hat 2 (by omega)
        rw [add_add] at this
        simpa using this
    obtain ⟨x, hx⟩ := choose_lt each
    refine ⟨a, len, cap, x, hc, hb, hl, hm, ?_⟩
    rw [← hmm]
    exact ⟨fun i h => (hx i h).1, fun i h => (hx i h).2.1, fun i h => (hx i h).2.2.1, fun i h => (hx i h).2.2.2⟩
/-- A row: nil, or values one behind the other ('m' of them are read: its length, or its capacity where the spare places are read too). -/
def IsRow (W : World) (base : Nat) (spare : Nat → Bool) (v : Value) : Prop :=
  v = .slice none 0 0 ∨ ∃ (a : Addr) (len cap : Nat) (x : Nat → Val), v = .slice (some a) len cap ∧ base ≤ a.block ∧ len ≤ cap ∧ cap ≤ maxLen ∧ Vals W a (if spare a.block then cap else len) x

theorem open_vals {W : World} {spare : Nat → Bool} {r : Reach} {b0 base : Nat} {v : Value} {d : DataW H} {p : List MemPlace} (hv : Value.okWide Tryd.prog W r b0 61 v) (h : DataW.Trod enc Tryd.prog W base spare true 61 v d p) : IsRow W base spare v := by
  obtain ⟨a0, len, cap, rfl⟩ := okWide_slice Tryd.underlying61 hv
  obtain ⟨fuel, hf⟩ := h
  rcases open_row_cells hf with hc | ⟨a, len', cap', x, hc, hb, hl, hm, hx⟩
  · simp [Value.cells] at hc
    obtain ⟨rfl, rfl, rfl⟩ := hc
    exact .inl rfl
  · simp [Value.cells] at hc
    obtain ⟨rfl, rfl, rfl⟩ := hc
    exact .inr ⟨a, len, cap, x, rfl, hb, hl, hm, hx⟩

/-- An argument that is a list of rows, opened. -/
theorem open_rows {t : TypeId} (ht : Tryd.prog.underlying t = some (.slice 61)) {W : World} {spare : Nat → Bool} {r : Reach} {b0 base : Nat} {v : Value} {d : DataW H} {p : List MemPlace} (hv : Value.okWide Tryd.prog W r b0 t v) (h : DataW.Trod enc Tryd.prog W base spare true t v d p) :
    v = .slice none 0 0 ∨ ∃ (a : Addr) (len cap : Nat) (R : Nat → Value), v = .slice (some a) len cap ∧ base ≤ a.block ∧ len ≤ cap ∧ cap ≤ maxLen ∧ ∀ i, i < (if spare a.block then cap else len) → W.cell? (a.add i) = some (R i) ∧ IsRow W base spare (R i) := by
  have hC : Tryd.prog.cellsOf 61 = 1 := by kernel_rfl
  obtain ⟨a0, len, cap, rfl⟩ := okWide_slice ht hv
  obtain ⟨fuel, hf⟩ := h
  rcases open_slice ht hf with ⟨hc, _⟩ | ⟨a, len', cap', m, n, D, Pl, hc, hb, hl, hm, hmm, _, hi⟩
  · simp [Value.cells] at hc
    obtain ⟨rfl, rfl, rfl⟩ := hc
    exact .inl rfl
  · simp [Value.cells] at hc
    obtain ⟨rfl, rfl, rfl⟩ := hc
    right
    have each : ∀ i, i < m → ∃ v : Value, W.cell? (a.add i) = some v ∧ IsRow W base spare v := by
      intro i him
      obtain ⟨cs, hcs, ht'⟩ := hi i him
      rw [hC] at hcs
      obtain ⟨_, _, hat⟩ := World.cells?_some hcs
      have h0 := hat 0 (by omega)
      rw [add_add] at h0
      rcases open_row_cells ht' with rfl | ⟨a', len', cap', x, rfl, hb', hl', hm', hx⟩
      · exact ⟨_, by simpa using h0, .inl rfl⟩
      · exact ⟨_, by simpa using h0, .inr ⟨a', len', cap', x, rfl, hb', hl', hm', hx⟩⟩
    have : Inhabited Value := ⟨.bool false⟩
    obtain ⟨R, hR⟩ := choose_lt each
    refine ⟨a, len, cap, R, rfl, hb, hl, hm, ?_⟩
    rw [← hmm]
    exact hR
end

end Go.Proofs.YtiidfghdmaipoaaDoor
