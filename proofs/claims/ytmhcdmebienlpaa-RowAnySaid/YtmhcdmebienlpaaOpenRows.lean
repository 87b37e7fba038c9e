/- An argument that is a list of rows, opened: the rows by their numbers, and how long they are at most. -/
import Derived.Test.YtmhcdmebienlpaaArgs
import Derived.Test.YtmhcdmebienlpaaMade
import Derived.SizedLaws
namespace Go.Proofs.Ytmhcdmebienlpaa
open Go.ChangeShapes Go.WideShapes Go.ChangeAt Go.RowKit Go.Joins Go.Deep

theorem weightsAll_mem {H : Type} {P : Program} {e : TypeId} {l : List (DataW H)} {d : DataW H} (hd : d ∈ l) {n : Nat} (hn : n ∈ d.weights P e) : n ∈ DataW.weightsAll P e l := by
  induction l with
  | nil => cases hd
  | cons a l ih =>
    simp only [DataW.weightsAll, List.mem_append]
    rcases List.mem_cons.1 hd with rfl | h
    · exact .inl hn
    · exact .inr (ih h)

section
variable {H : Type} {enc : TypeId × Value → H}

theorem open_rowlist {W : World} {spare : Nat → Bool} {r : Reach} {b0 base : Nat} {v : Value} {d : DataW H} {p : List MemPlace} (hv : Value.okWide Try.prog W r b0 34 v) (h : DataW.Trod enc Try.prog W base spare true 34 v d p)
    (hz : ∀ n ∈ d.weights Try.prog 34, n ≤ reachBytes) :
    ∃ (R : Rws) (q : Option Addr) (cap : Nat), v = .slice q R.n cap ∧ R.n ≤ cap ∧ R.n ≤ 9223372036854775807 ∧ R.at_ W q ∧ R.ok W ∧ ∀ i, i < R.n → R.l i ≤ 4398046511104 := by
  have hC : Try.prog.cellsOf 22 = 1 := by kernel_rfl
  have hB : Try.prog.bytesOf 36 = 32 := by kernel_rfl
  have hrb := reachBytes_lt
  obtain ⟨a0, len, cap, rfl⟩ := okWide_slice Try.underlying34 hv
  obtain ⟨fuel, hf⟩ := h
  rcases open_slice1 Try.underlying34 hC hf with ⟨hc, _⟩ | ⟨a, len', cap', m, n, V, D, Pl, hc, hb, hl, hm, hmm, hx, hi⟩
  · simp [Value.cells] at hc
    obtain ⟨rfl, rfl, rfl⟩ := hc
    exact ⟨⟨0, fun _ => none, fun _ => 0, fun _ => 0, fun _ _ => nul⟩, none, 0, rfl, Nat.le_refl _, by show (0 : Nat) ≤ _; omega, fun k hk => absurd hk (Nat.not_lt_zero _), ⟨fun i hi => absurd hi (Nat.not_lt_zero _), fun i hi => absurd hi (Nat.not_lt_zero _)⟩, fun i hi => absurd hi (Nat.not_lt_zero _)⟩
  · simp [Value.cells] at hc
    obtain ⟨rfl, rfl, rfl⟩ := hc
    have hlm : len ≤ m := by rw [hmm]; split <;> omega
    simp only [Prod.mk.injEq] at hx
    obtain ⟨rfl, _⟩ := hx
    have each : ∀ i, i < len → ∃ t : Option Addr × Nat × Nat × (Nat → Val), ArgRow W (V i) t.1 t.2.1 t.2.2.1 t.2.2.2 ∧ t.2.1 ≤ 4398046511104 := by
      intro i hil
      obtain ⟨h1, h2⟩ := hi i (by omega)
      have hrow : IsRow W base spare (V i) := by
        rcases open_row_cells h2 with hcs | ⟨a', len', cap', x, hcs, hb', hl', hm', hx'⟩
        · simp at hcs; exact .inl hcs
        · simp at hcs; exact .inr ⟨a', len', cap', x, hcs, hb', hl', hm', hx'⟩
      obtain ⟨q, l, c, x, hA⟩ := hrow.arg
      refine ⟨(q, l, c, x), hA, ?_⟩
      show l ≤ _
      rcases open_slice Try.underlying22 h2 with ⟨hcs, _⟩ | ⟨a', len', cap', m', n', D', Pl', hcs, _, _, _, _, hx', _⟩
      · have he := hA.eq
        simp at hcs
        rw [hcs] at he
        cases he
        omega
      · have he := hA.eq
        simp at hcs
        rw [hcs] at he
        cases he
        simp only [Prod.mk.injEq] at hx'
        have hw := hz ((((List.range l).map D').length + ((List.range (m' - l)).map fun j => D' (l + j)).length) * Try.prog.bytesOf 36) (by
          simp only [DataW.weights, Try.underlying34]
          refine List.mem_cons_of_mem _ (List.mem_append.2 (.inl (weightsAll_mem (d := D i) (List.mem_map.2 ⟨i, List.mem_range.2 hil, rfl⟩) ?_)))
          rw [hx'.1]
          simp [DataW.weights, Try.underlying22])
        rw [hB] at hw
        simp at hw
        omega
    have : Inhabited (Option Addr × Nat × Nat × (Nat → Val)) := ⟨(none, 0, 0, fun _ => nul)⟩
    obtain ⟨T, hT⟩ := choose_lt each
    refine ⟨⟨len, fun i => (T i).1, fun i => (T i).2.1, fun i => (T i).2.2.1, fun i => (T i).2.2.2⟩, some a, cap, rfl, hl, by show len ≤ _; unfold maxLen at hm; omega, fun k hk => ?_, ⟨fun i hi => (hT i hi).1.row, fun i hi => (hT i hi).1.le⟩, fun i hi => (hT i hi).2⟩
    have hk : k < len := hk
    obtain ⟨ha, hlt⟩ := addr_of_cell (show W.cell? a = some (V 0) by
      have c := (hi 0 (by omega)).1
      rw [Addr.add, if_pos rfl] at c
      exact c)
    refine ⟨a.block, a.off, by rw [← ha], hlt, fun i hil => ?_⟩
    have hil : i < len := hil
    have c := (hi i (by omega)).1
    rw [ha, addr_add, (hT i hil).1.eq] at c
    exact c
end

end Go.Proofs.Ytmhcdmebienlpaa
