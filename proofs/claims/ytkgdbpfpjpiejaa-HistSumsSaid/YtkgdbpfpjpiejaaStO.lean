/- Arguments that are tables, lists of lists of numbers, lists of texts, opened. -/
import Derived.Test.YtkgdbpfpjpiejaaOpen
import Derived.Test.YtkgdbpfpjpiejaaStD
import Derived.SizedLaws
namespace Go.Proofs.Ytkgdbpfpjpiejaa
open Go.ChangeShapes Go.WideShapes Go.ChangeAt Go.RowKit Go.Joins Go.Deep
set_option maxRecDepth 100000

theorem weights_mem {H : Type} {P : Program} {e : TypeId} {l : List (DataW H)} {d : DataW H} (hd : d ∈ l) {n : Nat} (hn : n ∈ d.weights P e) : n ∈ DataW.weightsAll P e l := by
  induction l with
  | nil => cases hd
  | cons a l ih =>
    simp only [DataW.weightsAll, List.mem_append]
    rcases List.mem_cons.1 hd with rfl | h
    · exact .inl hn
    · exact .inr (ih h)
theorem addr_off (b off n : Nat) : (⟨b, off, none⟩ : Addr).add n = ⟨b, off + n, none⟩ := by
  unfold Addr.add
  split
  · rename_i h; subst h; rfl
  · rfl
theorem addr_here {W : World} {a : Addr} {v : Value} (h : W.cell? a = some v) : a = ⟨a.block, a.off, none⟩ ∧ a.block < W.heap.size := by
  refine ⟨?_, World.block_lt_of_cell? W a (by rw [h])⟩
  obtain ⟨b, o, s⟩ := a
  cases s with
  | none => rfl
  | some k =>
    simp only [World.cell?] at h
    split at h <;> simp at h

section
variable {H : Type} {enc : TypeId × Value → H}

/-- A slice, opened: its elements, each with what its cells say of it. -/
theorem open_arr {α : Type} [Inhabited α] {t e : TypeId} {sz : Nat} (ht : Try.prog.underlying t = some (.slice e)) (hsz : Try.prog.cellsOf e = sz) (h0 : 0 < sz) {W : World} {base fuel : Nat} {spare : Nat → Bool} {held : Bool} {cs : List Value} {y : DataW H × List MemPlace}
    (P : Nat → Nat → α → Prop) (Q : α → Prop) (hf : DataW.trod enc Try.prog W base spare held fuel t cs = some y) (hz : ∀ n ∈ y.1.weights Try.prog t, n ≤ reachBytes)
    (hel : ∀ (cs : List Value) (y : DataW H × List MemPlace) (n : Nat), DataW.trod enc Try.prog W base spare held n e cs = some y → (∀ n ∈ y.1.weights Try.prog e, n ≤ reachBytes) → ∀ g o, (∀ (k : Nat) v, k < sz → cs[k]? = some v → W.cell? ⟨g, o + k, none⟩ = some v) → ∃ x, P g o x ∧ Q x) :
    ∃ (q : Option Addr) (l : List α) (c : Nat), cs = [.slice q l.length c] ∧ l.length ≤ c ∧ c ≤ 9223372036854775807 ∧ l.length * Try.prog.bytesOf e ≤ reachBytes ∧ ArrA 0 W.heap.size q sz l P ∧ ∀ x ∈ l, Q x := by
  rcases open_slice ht hf with ⟨hc, _⟩ | ⟨a, len, cap, m, n, D, Pl, hc, hb, hl, hm, hmm, hx, hi⟩
  · exact ⟨none, [], 0, hc, Nat.le_refl _, by omega, by simp, fun i hi => absurd hi (by simp), fun x hx => absurd hx (by simp)⟩
  · have hlm : len ≤ m := by rw [hmm]; split <;> omega
    rw [hsz] at hi
    subst hx
    have hcell : ∀ i, i < len → ∃ cs', (∀ k, k < sz → W.cell? (a.add (i * sz + k)) = cs'[k]?) ∧ cs'.length = sz ∧ DataW.trod enc Try.prog W base spare held n e cs' = some (D i, Pl i) := by
      intro i hil
      obtain ⟨cs', hcs, htr⟩ := hi i (by omega)
      obtain ⟨_, hlen, hat⟩ := World.cells?_some hcs
      exact ⟨cs', fun k hk => by have h1 := hat k hk; rw [add_add] at h1; exact h1, hlen, htr⟩
    have haddr : 0 < len → a = ⟨a.block, a.off, none⟩ ∧ a.block < W.heap.size := by
      intro hl0
      obtain ⟨cs', hk, hlen, _⟩ := hcell 0 hl0
      have h1 := hk 0 h0
      rw [Nat.zero_mul, Nat.zero_add, Addr.add, if_pos rfl, List.getElem?_eq_getElem (by omega)] at h1
      exact addr_here h1
    have each : ∀ i, i < len → ∃ x : α, P a.block (a.off + i * sz) x ∧ Q x := by
      intro i hil
      obtain ⟨cs', hk, hlen, htr⟩ := hcell i hil
      refine hel cs' _ n htr (fun w hw => hz w ?_) _ _ (fun k v hks hv => ?_)
      · simp only [DataW.weights, ht]
        exact List.mem_cons_of_mem _ (List.mem_append.2 (.inl (weights_mem (d := D i) (List.mem_map.2 ⟨i, List.mem_range.2 hil, rfl⟩) hw)))
      · have h1 := hk k hks
        rw [(haddr (by omega)).1, addr_off, hv] at h1
        rw [Nat.add_assoc]
        exact h1
    obtain ⟨T, hT⟩ := choose_lt each
    have hlen : ((List.range len).map T).length = len := by simp
    refine ⟨some a, (List.range len).map T, cap, by rw [hlen]; exact hc, by rw [hlen]; exact hl, by unfold maxLen at hm; omega, ?_, fun i hi => ?_, fun x hx => ?_⟩
    · rw [hlen]
      have h1 := hz ((((List.range len).map D).length + ((List.range (m - len)).map fun j => D (len + j)).length) * Try.prog.bytesOf e) (by simp [DataW.weights, ht])
      simp at h1
      exact Nat.le_trans (Nat.mul_le_mul_right _ (by omega)) h1
    · rw [hlen] at hi
      obtain ⟨ha, hlt⟩ := haddr (by omega)
      refine ⟨a.block, a.off, by rw [← ha], Nat.zero_le _, hlt, fun j x hx => ?_⟩
      have hj : j < len := by
        rcases Nat.lt_or_ge j len with h | h
        · exact h
        · rw [List.getElem?_eq_none (by rw [hlen]; exact h)] at hx; cases hx
      have : T j = x := by simpa [hj] using hx
      rw [← this]
      exact (hT j hj).1
    · obtain ⟨j, hj, rfl⟩ := List.mem_map.1 hx
      exact (hT j (List.mem_range.1 hj)).2

instance : Inhabited ByteArray := ⟨⟨#[]⟩⟩

instance : Inhabited Col := ⟨⟨⟨#[]⟩, 0⟩⟩
instance : Inhabited Tab := ⟨⟨⟨#[]⟩, [], []⟩⟩

theorem Try.cellsStr : Try.prog.cellsOf 9 = 1 := by kernel_rfl
theorem Try.cellsInt : Try.prog.cellsOf 3 = 1 := by kernel_rfl

/-- How long the parts of a table are at most. -/
def TabReach (t : Tab) : Prop := t.cols.length * 24 ≤ reachBytes ∧ t.rows.length * 24 ≤ reachBytes ∧ ∀ r ∈ t.rows, r.length * 32 ≤ reachBytes

theorem open_nums5 {W : World} {base fuel : Nat} {spare : Nat → Bool} {held : Bool} {cs : List Value} {y : DataW H × List MemPlace} (hf : DataW.trod enc Try.prog W base spare held fuel 37 cs = some y) (hz : ∀ n ∈ y.1.weights Try.prog 37, n ≤ reachBytes) :
    ∃ (q : Option Addr) (l : List Int) (c : Nat), cs = [.slice q l.length c] ∧ l.length ≤ c ∧ c ≤ 9223372036854775807 ∧ l.length * 8 ≤ reachBytes ∧ IntsA W 0 W.heap.size q l := by
  have hB : Try.prog.bytesOf 3 = 8 := by kernel_rfl
  obtain ⟨q, l, c, h1, h2, h3, h4, h5, _⟩ := open_arr Try.underlying37 Try.cellsInt (by omega) (intC W) (fun _ => True) hf hz (fun cs y n htr _ g o hk => by
    obtain ⟨a, rfl, _, wa⟩ := DataW.trod_int Try.underlying3 htr
    exact ⟨a, hk 0 _ (by omega) rfl, trivial⟩)
  rw [hB] at h4
  exact ⟨q, l, c, h1, h2, h3, h4, h5⟩

/-- A text. -/
theorem open_word5 {r : Reach} {b0 base : Nat} {W : World} {spare : Nat → Bool} {held : Bool} {v : Value} {d : DataW H} {p : List MemPlace} (hv : Value.okWide Try.prog W r b0 9 v) (h : DataW.Trod enc Try.prog W base spare held 9 v d p) :
    ∃ s : ByteArray, v = .string s ∧ s.size ≤ 9223372036854775807 := by
  obtain ⟨s, rfl⟩ := okWide_string Try.underlying9 hv
  obtain ⟨fuel, hf⟩ := h
  obtain ⟨s', h', _, hs⟩ := DataW.trod_string Try.underlying9 hf
  simp [Value.cells] at h'
  subst h'
  exact ⟨s, rfl, by unfold maxLen at hs; omega⟩

/-- A text, and how long it may be. -/
theorem open_word6 {r : Reach} {b0 base : Nat} {W : World} {spare : Nat → Bool} {held : Bool} {v : Value} {d : DataW H} {p : List MemPlace} (hv : Value.okWide Try.prog W r b0 9 v) (h : DataW.Trod enc Try.prog W base spare held 9 v d p) (hz : ∀ n ∈ d.weights Try.prog 9, n ≤ reachBytes) :
    ∃ s : ByteArray, v = .string s ∧ s.size ≤ reachBytes := by
  obtain ⟨s, rfl⟩ := okWide_string Try.underlying9 hv
  obtain ⟨fuel, hf⟩ := h
  obtain ⟨s', h', hd, _⟩ := DataW.trod_string Try.underlying9 hf
  simp [Value.cells] at h'
  subst h'
  refine ⟨s, rfl, ?_⟩
  simp only [Prod.mk.injEq] at hd
  have := hz s.data.toList.length (by rw [hd.1]; simp [DataW.weights])
  rwa [Array.length_toList] at this

end

end Go.Proofs.Ytkgdbpfpjpiejaa
