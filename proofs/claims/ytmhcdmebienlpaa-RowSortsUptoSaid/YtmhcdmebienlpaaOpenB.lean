/- Arguments that are rows, and lists of rows, opened: how long they are, and their texts, by the bulk of what is read. -/
import Derived.Test.YtmhcdmebienlpaaArgs
import Derived.Test.YtmhcdmebienlpaaMade
namespace Go.Proofs.Ytmhcdmebienlpaa
open Go.ChangeShapes Go.WideShapes Go.ChangeAt Go.RowKit Go.Joins Go.Deep

theorem bulk_mem {H : Type} {l : List (DataW H)} {d : DataW H} (h : d ∈ l) : Rows.uptoBulk d ≤ Rows.uptoBulkAll l := by
  induction l with
  | nil => cases h
  | cons a l ih =>
    simp only [Rows.uptoBulkAll]
    rcases List.mem_cons.1 h with rfl | h
    · omega
    · have := ih h; omega

section
variable {H : Type} {enc : TypeId × Value → H}

theorem val_bulk {W : World} {base n : Nat} {spare : Nat → Bool} {held : Bool} {cs : List Value} {y : DataW H × List MemPlace} (h : DataW.trod enc Try.prog W base spare held n 36 cs = some y) :
    ∃ (k m : Int) (s : ByteArray), cs = [.int .i64 k, .int .i64 m, .string s] ∧ s.size ≤ Rows.uptoBulk y.1 := by
  obtain ⟨y0, y1, y2, m, hy, hl, h0, h1, h2⟩ := trod_struct3 Try.underlying36 h
  rw [Try.cellsVal] at hl
  match cs, hl with
  | [v0, v1, v2], _ =>
    obtain ⟨a, e0, _, _⟩ := DataW.trod_int Try.underlying3 h0
    obtain ⟨b, e1, _, _⟩ := DataW.trod_int Try.underlying3 h1
    obtain ⟨s, e2, hx, hs⟩ := DataW.trod_string Try.underlying9 h2
    have k3 : Try.prog.cellsOf 3 = 1 := by kernel_rfl
    have k9 : Try.prog.cellsOf 9 = 1 := by kernel_rfl
    simp [k3, k9] at e0 e1 e2
    subst e0 e1 e2
    refine ⟨a, b, s, rfl, ?_⟩
    rw [hy, hx]
    simp only [Rows.uptoBulk, Rows.uptoBulkAll]
    have e : s.data.toList.length = s.size := by rw [Array.length_toList]; rfl
    omega

theorem open_row3 {W : World} {spare : Nat → Bool} {r : Reach} {b0 base : Nat} {v : Value} {d : DataW H} {p : List MemPlace} (hv : Value.okWide Try.prog W r b0 22 v) (h : DataW.Trod enc Try.prog W base spare true 22 v d p) :
    ∃ p n cap x, ArgRow W v p n cap x ∧ n ≤ Rows.uptoBulk d ∧ ∀ i, i < n → (x i).s.size ≤ Rows.uptoBulk d := by
  obtain ⟨a, n, cap, x, hA⟩ := (open_vals hv h).arg
  refine ⟨a, n, cap, x, hA, ?_⟩
  obtain rfl := hA.eq
  obtain ⟨fuel, hf⟩ := h
  rcases open_slice Try.underlying22 hf with ⟨hc, _⟩ | ⟨a', len, cap', m, k, D, Pl, hc, _, hl, _, hmm, hx, hi⟩
  · simp [Value.cells] at hc
    obtain ⟨_, rfl, _⟩ := hc
    exact ⟨by omega, fun i hi => by omega⟩
  · simp [Value.cells] at hc
    obtain ⟨rfl, rfl, rfl⟩ := hc
    have hlm : n ≤ m := by rw [hmm]; split <;> omega
    simp only [Prod.mk.injEq] at hx
    obtain ⟨rfl, _⟩ := hx
    have hlen := bulk_len (List.map D (List.range n))
    simp only [Rows.uptoBulk]
    simp at hlen
    refine ⟨by omega, fun i hin => ?_⟩
    obtain ⟨cs, hcs, ht⟩ := hi i (by omega)
    rw [Try.cellsVal] at hcs
    obtain ⟨k', m', s, rfl, hs⟩ := val_bulk ht
    have hs : s.size ≤ Rows.uptoBulk (D i) := hs
    obtain ⟨_, _, hat⟩ := World.cells?_some hcs
    have h2 := hat 2 (by omega)
    rw [add_add] at h2
    obtain ⟨b, off, e, hR⟩ := hA.row.one hin
    cases e
    have h3 := hR.c2 i hin
    rw [addr_add] at h2
    simp at h2
    rw [show off + (i * 3 + 2) = off + i * 3 + 2 by omega] at h2
    rw [h2] at h3
    simp at h3
    subst h3
    have := bulk_mem (show D i ∈ List.map D (List.range n) from List.mem_map.2 ⟨i, List.mem_range.2 hin, rfl⟩)
    omega

theorem open_rowlist2 {W : World} {spare : Nat → Bool} {r : Reach} {b0 base : Nat} {v : Value} {d : DataW H} {p : List MemPlace} (hv : Value.okWide Try.prog W r b0 34 v) (h : DataW.Trod enc Try.prog W base spare true 34 v d p) :
    ∃ (R : Rws) (q : Option Addr) (cap : Nat), v = .slice q R.n cap ∧ R.n ≤ cap ∧ R.n ≤ 9223372036854775807 ∧ R.at_ W q ∧ R.ok W ∧ ∀ i, i < R.n → R.l i ≤ Rows.uptoBulk d := by
  have hC : Try.prog.cellsOf 22 = 1 := by kernel_rfl
  obtain ⟨a0, len, cap, rfl⟩ := okWide_slice Try.underlying34 hv
  obtain ⟨fuel, hf⟩ := h
  rcases open_slice1 Try.underlying34 hC hf with ⟨hc, _⟩ | ⟨a, len', cap', m, n, V, D, Pl, hc, hb, hl, hm, hmm, hx, hi⟩
  · simp [Value.cells] at hc
    obtain ⟨rfl, rfl, rfl⟩ := hc
    exact ⟨⟨0, fun _ => none, fun _ => 0, fun _ => 0, fun _ _ => nul⟩, none, 0, rfl, Nat.le_refl _, by show (0 : Nat) ≤ _; omega, fun k hk => absurd hk (Nat.not_lt_zero _), ⟨fun i hi => absurd hi (Nat.not_lt_zero _), fun i hi => absurd hi (Nat.not_lt_zero _)⟩, fun i hi => absurd hi (Nat.not_lt_zero _)⟩
  · simp [Value.cells] at hc
    obtain ⟨rfl, rfl, rfl⟩ := hc
    have hlm : len ≤ m := by rw [hmm]; split <;> omega
    simp only [Prod.mk.injEq] at hx
    obtain ⟨rfl, _⟩ := hx
    have each : ∀ i, i < len → ∃ t : Option Addr × Nat × Nat × (Nat → Val), ArgRow W (V i) t.1 t.2.1 t.2.2.1 t.2.2.2 ∧ t.2.1 ≤ Rows.uptoBulk (D i) := by
      intro i hil
      obtain ⟨h1, h2⟩ := hi i (by omega)
      have hrow : IsRow W base spare (V i) := by
        rcases open_row_cells h2 with hcs | ⟨a', len', cap', x, hcs, hb', hl', hm', hx'⟩
        · simp at hcs; exact .inl hcs
        · simp at hcs; exact .inr ⟨a', len', cap', x, hcs, hb', hl', hm', hx'⟩
      obtain ⟨q, l, c, x, hA⟩ := hrow.arg
      refine ⟨(q, l, c, x), hA, ?_⟩
      show l ≤ _
      rcases open_slice Try.underlying22 h2 with ⟨hcs, _⟩ | ⟨a', len', cap', m', n', D', Pl', hcs, _, _, _, _, hx', _⟩
      · have he := hA.eq
        simp at hcs
        rw [hcs] at he
        cases he
        omega
      · have he := hA.eq
        simp at hcs
        rw [hcs] at he
        cases he
        simp only [Prod.mk.injEq] at hx'
        have hlen := bulk_len (List.map D' (List.range l))
        rw [hx'.1]
        simp only [Rows.uptoBulk]
        simp at hlen
        omega
    have : Inhabited (Option Addr × Nat × Nat × (Nat → Val)) := ⟨(none, 0, 0, fun _ => nul)⟩
    obtain ⟨T, hT⟩ := choose_lt each
    refine ⟨⟨len, fun i => (T i).1, fun i => (T i).2.1, fun i => (T i).2.2.1, fun i => (T i).2.2.2⟩, some a, cap, rfl, hl, by show len ≤ _; unfold maxLen at hm; omega, fun k hk => ?_, ⟨fun i hi => (hT i hi).1.row, fun i hi => (hT i hi).1.le⟩, fun i hi => ?_⟩
    · have hk : k < len := hk
      obtain ⟨ha, hlt⟩ := addr_of_cell (show W.cell? a = some (V 0) by
        have c := (hi 0 (by omega)).1
        rw [Addr.add, if_pos rfl] at c
        exact c)
      refine ⟨a.block, a.off, by rw [← ha], hlt, fun i hil => ?_⟩
      have hil : i < len := hil
      have c := (hi i (by omega)).1
      rw [ha, addr_add, (hT i hil).1.eq] at c
      exact c
    · have hi : i < len := hi
      have h1 := (hT i hi).2
      have h2 := bulk_mem (show D i ∈ List.map D (List.range len) from List.mem_map.2 ⟨i, List.mem_range.2 hi, rfl⟩)
      simp only [Rows.uptoBulk]
      show (T i).2.1 ≤ _
      omega
end

end Go.Proofs.Ytmhcdmebienlpaa
