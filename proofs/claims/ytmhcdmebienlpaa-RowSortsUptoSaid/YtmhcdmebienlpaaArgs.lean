/- Arguments that are rows, as rows in memory. -/
import Derived.Test.YtmhcdmebienlpaaOpen
import Derived.Test.YtmhcdmebienlpaaRowMem
import Derived.JoinedCond
namespace Go.Proofs.Ytmhcdmebienlpaa
open Go.ChangeShapes Go.WideShapes Go.ChangeAt Go.RowKit Go.Joins

/-- A row that came in: n values, each within its bounds. -/
structure ArgRow (W : World) (v : Value) (p : Option Addr) (n cap : Nat) (x : Nat → Val) : Prop where
  eq : v = .slice p n cap
  le : n ≤ 9223372036854775807
  row : RowP W p n x
  fit : ∀ i, i < n → inR (x i).n = true ∧ (x i).s.size ≤ 9223372036854775807

theorem addr_add (b off n : Nat) : (⟨b, off, none⟩ : Addr).add n = ⟨b, off + n, none⟩ := by
  unfold Addr.add
  split
  · rename_i h; subst h; rfl
  · rfl

theorem addr_of_cell {W : World} {a : Addr} {v : Value} (h : W.cell? a = some v) : a = ⟨a.block, a.off, none⟩ ∧ a.block < W.heap.size := by
  refine ⟨?_, World.block_lt_of_cell? W a (by rw [h])⟩
  obtain ⟨b, o, s⟩ := a
  cases s with
  | none => rfl
  | some k =>
    simp only [World.cell?] at h
    split at h <;> simp at h

theorem IsRow.arg {W : World} {base : Nat} {spare : Nat → Bool} {v : Value} (h : IsRow W base spare v) : ∃ p n cap x, ArgRow W v p n cap x := by
  rcases h with rfl | ⟨a, len, cap, x, rfl, hb, hl, hm, hV⟩
  · exact ⟨none, 0, 0, fun _ => nul, rfl, by omega, .inl rfl, by intro i hi; omega⟩
  · have hlm : len ≤ (if spare a.block then cap else len) := by split <;> omega
    refine ⟨some a, len, cap, x, rfl, by unfold maxLen at hm; omega, ?_, fun i hi => ?_⟩
    · by_cases h0 : len = 0
      · exact .inl h0
      · right
        have c := hV.c0 0 (by omega)
        rw [Nat.zero_mul, Addr.add, if_pos rfl] at c
        obtain ⟨ha, hlt⟩ := addr_of_cell c
        refine ⟨a.block, a.off, by rw [← ha], fun _ => hlt, ?_, ?_, ?_⟩
        · intro i hi; have := hV.c0 i (by omega); rw [ha, addr_add] at this; exact this
        · intro i hi; have := hV.c1 i (by omega); rw [ha, addr_add] at this; exact this
        · intro i hi; have := hV.c2 i (by omega); rw [ha, addr_add] at this; exact this
    · have := hV.fit i (by omega)
      exact ⟨this.2.1, by have := this.2.2; unfold maxLen at this; omega⟩

/-- A text that came in. -/
theorem open_text {H : Type} {enc : TypeId × Value → H} {r : Reach} {b0 base : Nat} {W : World} {spare : Nat → Bool} {held : Bool} {v : Value} {d : DataW H} {p : List MemPlace} (hv : Value.okWide Try.prog W r b0 9 v) (h : DataW.Trod enc Try.prog W base spare held 9 v d p) :
    ∃ s : ByteArray, v = .string s ∧ s.size ≤ 9223372036854775807 := by
  obtain ⟨s, rfl⟩ := okWide_string Try.underlying9 hv
  obtain ⟨fuel, hf⟩ := h
  obtain ⟨s', h', _, hs⟩ := DataW.trod_string Try.underlying9 hf
  simp [Value.cells] at h'
  subst h'
  exact ⟨s, rfl, by unfold maxLen at hs; omega⟩

/-- A text that came in, and how it is read. -/
theorem open_text2 {H : Type} {enc : TypeId × Value → H} {r : Reach} {b0 base : Nat} {W : World} {spare : Nat → Bool} {held : Bool} {v : Value} {d : DataW H} {p : List MemPlace} (hv : Value.okWide Try.prog W r b0 9 v) (h : DataW.Trod enc Try.prog W base spare held 9 v d p) :
    ∃ s : ByteArray, v = .string s ∧ s.size ≤ 9223372036854775807 ∧ s.size + 1 ≤ Rows.uptoBulk d := by
  obtain ⟨s, rfl⟩ := okWide_string Try.underlying9 hv
  obtain ⟨fuel, hf⟩ := h
  obtain ⟨s', h', hx, hs⟩ := DataW.trod_string Try.underlying9 hf
  simp [Value.cells] at h'
  subst h'
  simp only [Prod.mk.injEq] at hx
  obtain ⟨rfl, _⟩ := hx
  refine ⟨s, rfl, by unfold maxLen at hs; omega, ?_⟩
  simp only [Rows.uptoBulk]
  have e : s.data.toList.length = s.size := by rw [Array.length_toList]; rfl
  omega

theorem bulk_pos {H : Type} (d : DataW H) : 1 ≤ Rows.uptoBulk d := by
  cases d with
  | lit l => cases l <;> simp [Rows.uptoBulk]
  | nil => simp [Rows.uptoBulk]
  | ptr d => simp [Rows.uptoBulk]
  | slice e s => simp [Rows.uptoBulk]
  | agg d => simp [Rows.uptoBulk]
  | iface a d => simp [Rows.uptoBulk]
  | map e => simp [Rows.uptoBulk]
  | held d => simp [Rows.uptoBulk]
theorem bulk_len {H : Type} (l : List (DataW H)) : l.length ≤ Rows.uptoBulkAll l := by
  induction l with
  | nil => simp [Rows.uptoBulkAll]
  | cons d l ih =>
    have := bulk_pos d
    simp only [Rows.uptoBulkAll, List.length_cons]
    omega

/-- A row that came in, and how it is read: it is no longer than its bulk. -/
theorem open_row2 {H : Type} {enc : TypeId × Value → H} {W : World} {spare : Nat → Bool} {r : Reach} {b0 base : Nat} {v : Value} {d : DataW H} {p : List MemPlace} (hv : Value.okWide Try.prog W r b0 22 v) (h : DataW.Trod enc Try.prog W base spare true 22 v d p) :
    ∃ p n cap x, ArgRow W v p n cap x ∧ n ≤ Rows.uptoBulk d := by
  obtain ⟨a, n, cap, x, hA⟩ := (open_vals hv h).arg
  refine ⟨a, n, cap, x, hA, ?_⟩
  obtain rfl := hA.eq
  obtain ⟨fuel, hf⟩ := h
  rcases Go.Deep.open_slice Try.underlying22 hf with ⟨hc, _⟩ | ⟨a', len, cap', m, k, D, Pl, hc, _, _, _, _, hx, _⟩
  · simp [Value.cells] at hc
    omega
  · simp [Value.cells] at hc
    simp only [Prod.mk.injEq] at hx
    obtain ⟨rfl, _⟩ := hx
    have := bulk_len (List.map D (List.range len))
    simp only [Rows.uptoBulk]
    simp at this
    omega

end Go.Proofs.Ytmhcdmebienlpaa
