/- An argument that is a list of texts, opened. -/
import Derived.Test.YtinonaiolhgklaaFrame
import Derived.Test.YtinonaiolhgklaaBgL
import Derived.Deep.Slices
import Derived.Deep.Strs
import Derived.SizedLaws
namespace Go.Proofs.Ytinonaiolhgklaa
open Go.ChangeShapes Go.WideShapes Go.ChangeAt Go.RowKit Go.Joins Go.Deep

theorem addr_plus (b off n : Nat) : (⟨b, off, none⟩ : Addr).add n = ⟨b, off + n, none⟩ := by
  unfold Addr.add
  split
  · rename_i h; subst h; rfl
  · rfl
theorem addr_cell {W : World} {a : Addr} {v : Value} (h : W.cell? a = some v) : a = ⟨a.block, a.off, none⟩ ∧ a.block < W.heap.size := by
  refine ⟨?_, World.block_lt_of_cell? W a (by rw [h])⟩
  obtain ⟨b, o, s⟩ := a
  cases s with
  | none => rfl
  | some k =>
    simp only [World.cell?] at h
    split at h <;> simp at h

section
variable {H : Type} {enc : TypeId × Value → H}

theorem open_texts {W : World} {spare : Nat → Bool} {r : Reach} {b0 base : Nat} {v : Value} {d : DataW H} {p : List MemPlace} (hv : Value.okWide Try.prog W r b0 22 v) (h : DataW.Trod enc Try.prog W base spare true 22 v d p) :
    ∃ (q : Option Addr) (n cap : Nat) (T : Nat → ByteArray), v = .slice q n cap ∧ n ≤ cap ∧ n ≤ 9223372036854775807 ∧ TxtP W q n T ∧ (∀ i, i < n → (T i).size ≤ 9223372036854775807) ∧ (d = .nil ∧ n = 0 ∨ ∃ es sp, d = .slice es sp ∧ es.length = n) := by
  have hC : Try.prog.cellsOf 9 = 1 := by kernel_rfl
  obtain ⟨a0, len, cap, rfl⟩ := okWide_slice Try.underlying22 hv
  obtain ⟨fuel, hf⟩ := h
  rcases open_slice1 Try.underlying22 hC hf with ⟨hc, hx⟩ | ⟨a, len', cap', m, n, V, D, Pl, hc, hb, hl, hm, hmm, hx, hi⟩
  · simp [Value.cells] at hc
    obtain ⟨rfl, rfl, rfl⟩ := hc
    simp only [Prod.mk.injEq] at hx
    exact ⟨none, 0, 0, fun _ => ⟨#[]⟩, rfl, Nat.le_refl _, by omega, fun k hk => absurd hk (Nat.not_lt_zero _), fun i hi => absurd hi (Nat.not_lt_zero _), .inl ⟨hx.1, rfl⟩⟩
  · simp [Value.cells] at hc
    obtain ⟨rfl, rfl, rfl⟩ := hc
    have hlm : len ≤ m := by rw [hmm]; split <;> omega
    simp only [Prod.mk.injEq] at hx
    have each : ∀ i, i < len → ∃ s : ByteArray, V i = .string s ∧ s.size ≤ 9223372036854775807 := by
      intro i hil
      obtain ⟨h1, h2⟩ := hi i (by omega)
      obtain ⟨s, h', _, hs⟩ := DataW.trod_string Try.underlying9 h2
      exact ⟨s, by simpa using h', by unfold maxLen at hs; omega⟩
    have : Inhabited ByteArray := ⟨⟨#[]⟩⟩
    obtain ⟨T, hT⟩ := choose_lt each
    refine ⟨some a, len, cap, T, rfl, hl, by unfold maxLen at hm; omega, fun k hk => ?_, fun i hi => (hT i hi).2, .inr ⟨_, _, hx.1, by simp⟩⟩
    obtain ⟨ha, hlt⟩ := addr_cell (show W.cell? a = some (V 0) by
      have c := (hi 0 (by omega)).1
      rw [Addr.add, if_pos rfl] at c
      exact c)
    refine ⟨a.block, a.off, by rw [← ha], hlt, fun i hil => ?_⟩
    have c := (hi i (by omega)).1
    rw [ha, addr_plus, (hT i hil).1] at c
    exact c
/-- A text. -/
theorem open_word {r : Reach} {b0 base : Nat} {W : World} {spare : Nat → Bool} {held : Bool} {v : Value} {d : DataW H} {p : List MemPlace} (hv : Value.okWide Try.prog W r b0 9 v) (h : DataW.Trod enc Try.prog W base spare held 9 v d p) :
    ∃ s : ByteArray, v = .string s ∧ s.size ≤ 9223372036854775807 := by
  obtain ⟨s, rfl⟩ := okWide_string Try.underlying9 hv
  obtain ⟨fuel, hf⟩ := h
  obtain ⟨s', h', _, hs⟩ := DataW.trod_string Try.underlying9 hf
  simp [Value.cells] at h'
  subst h'
  exact ⟨s, rfl, by unfold maxLen at hs; omega⟩
end

theorem TxtP.le {w : World} {q : Option Addr} {n k : Nat} {T : Nat → ByteArray} (h : TxtP w q n T) (hk : k ≤ n) : TxtP w q k T := fun j hj => by
  obtain ⟨b, off, h1, h2, h3⟩ := h j (by omega)
  exact ⟨b, off, h1, h2, fun i hi => h3 i (by omega)⟩

end Go.Proofs.Ytinonaiolhgklaa
