/- Arguments that are tables, lists of lists of numbers, lists of texts, opened. -/
import Derived.Test.YtkeekefekajfnaaOpen
import Derived.Test.YtkeekefekajfnaaStD
import Derived.SizedLaws
namespace Go.Proofs.Ytkeekefekajfnaa
open Go.ChangeShapes Go.WideShapes Go.ChangeAt Go.RowKit Go.Joins Go.Deep
set_option maxRecDepth 100000

theorem weights_mem {H : Type} {P : Program} {e : TypeId} {l : List (DataW H)} {d : DataW H} (hd : d ∈ l) {n : Nat} (hn : n ∈ d.weights P e) : n ∈ DataW.weightsAll P e l := by
  induction l with
  | nil => cases hd
  | cons a l ih =>
    simp only [DataW.weightsAll, List.mem_append]
    rcases List.mem_cons.1 hd with rfl | h
    · exact .inl hn
    · exact .inr (ih h)
theorem addr_off (b off n : Nat) : (⟨b, off, none⟩ : Addr).add n = ⟨b, off + n, none⟩ := by
  unfold Addr.add
  split
  · rename_i h; subst h; rfl
  · rfl
theorem addr_here {W : World} {a : Addr} {v : Value} (h : W.cell? a = some v) : a = ⟨a.block, a.off, none⟩ ∧ a.block < W.heap.size := by
  refine ⟨?_, World.block_lt_of_cell? W a (by rw [h])⟩
  obtain ⟨b, o, s⟩ := a
  cases s with
  | none => rfl
  | some k =>
    simp only [World.cell?] at h
    split at h <;> simp at h

section
variable {H : Type} {enc : TypeId × Value → H}

/-- A slice, opened: its elements, each with what its cells say of it. -/
theorem open_arr {α : Type} [Inhabited α] {t e : TypeId} {sz : Nat} (ht : Try.prog.underlying t = some (.slice e)) (hsz : Try.prog.cellsOf e = sz) (h0 : 0 < sz) {W : World} {base fuel : Nat} {spare : Nat → Bool} {held : Bool} {cs : List Value} {y : DataW H × List MemPlace}
    (P : Nat → Nat → α → Prop) (Q : α → Prop) (hf : DataW.trod enc Try.prog W base spare held fuel t cs = some y) (hz : ∀ n ∈ y.1.weights Try.prog t, n ≤ reachBytes)
    (hel : ∀ (cs : List Value) (y : DataW H × List MemPlace) (n : Nat), DataW.trod enc Try.prog W base spare held n e cs = some y → (∀ n ∈ y.1.weights Try.prog e, n ≤ reachBytes) → ∀ g o, (∀ (k : Nat) v, k < sz → cs[k]? = some v → W.cell? ⟨g, o + k, none⟩ = some v) → ∃ x, P g o x ∧ Q x) :
    ∃ (q : Option Addr) (l : List α) (c : Nat), cs = [.slice q l.length c] ∧ l.length ≤ c ∧ c ≤ 9223372036854775807 ∧ l.length * Try.prog.bytesOf e ≤ reachBytes ∧ ArrA 0 W.heap.size q sz l P ∧ ∀ x ∈ l, Q x := by
  rcases open_slice ht hf with ⟨hc, _⟩ | ⟨a, len, cap, m, n, D, Pl, hc, hb, hl, hm, hmm, hx, hi⟩
  · exact ⟨none, [], 0, hc, Nat.le_refl _, by omega, by simp, fun i hi => absurd hi (by simp), fun x hx => absurd hx (by simp)⟩
  · have hlm : len ≤ m := by rw [hmm]; split <;> omega
    rw [hsz] at hi
    subst hx
    have hcell : ∀ i, i < len → ∃ cs', (∀ k, k < sz → W.cell? (a.add (i * sz + k)) = cs'[k]?) ∧ cs'.length = sz ∧ DataW.trod enc Try.prog W base spare held n e cs' = some (D i, Pl i) := by
      intro i hil
      obtain ⟨cs', hcs, htr⟩ := hi i (by omega)
      obtain ⟨_, hlen, hat⟩ := World.cells?_some hcs
      exact ⟨cs', fun k hk => by have h1 := hat k hk; rw [add_add] at h1; exact h1, hlen, htr⟩
    have haddr : 0 < len → a = ⟨a.block, a.off, none⟩ ∧ a.block < W.heap.size := by
      intro hl0
      obtain ⟨cs', hk, hlen, _⟩ := hcell 0 hl0
      have h1 := hk 0 h0
      rw [Nat.zero_mul, Nat.zero_add, Addr.add, if_pos rfl, List.getElem?_eq_getElem (by omega)] at h1
      exact addr_here h1
    have each : ∀ i, i < len → ∃ x : α, P a.block (a.off + i * sz) x ∧ Q x := by
      intro i hil
      obtain ⟨cs', hk, hlen, htr⟩ := hcell i hil
      refine hel cs' _ n htr (fun w hw => hz w ?_) _ _ (fun k v hks hv => ?_)
      · simp only [DataW.weights, ht]
        exact List.mem_cons_of_mem _ (List.mem_append.2 (.inl (weights_mem (d := D i) (List.mem_map.2 ⟨i, List.mem_range.2 hil, rfl⟩) hw)))
      · have h1 := hk k hks
        rw [(haddr (by omega)).1, addr_off, hv] at h1
        rw [Nat.add_assoc]
        exact h1
    obtain ⟨T, hT⟩ := choose_lt each
    have hlen : ((List.range len).map T).length = len := by simp
    refine ⟨some a, (List.range len).map T, cap, by rw [hlen]; exact hc, by rw [hlen]; exact hl, by unfold maxLen at hm; omega, ?_, fun i hi => ?_, fun x hx => ?_⟩
    · rw [hlen]
      have h1 := hz ((((List.range len).map D).length + ((List.range (m - len)).map fun j => D (len + j)).length) * Try.prog.bytesOf e) (by simp [DataW.weights, ht])
      simp at h1
      exact Nat.le_trans (Nat.mul_le_mul_right _ (by omega)) h1
    · rw [hlen] at hi
      obtain ⟨ha, hlt⟩ := haddr (by omega)
      refine ⟨a.block, a.off, by rw [← ha], Nat.zero_le _, hlt, fun j x hx => ?_⟩
      have hj : j < len := by
        rcases Nat.lt_or_ge j len with h | h
        · exact h
        · rw [List.getElem?_eq_none (by rw [hlen]; exact h)] at hx; cases hx
      have : T j = x := by simpa [hj] using hx
      rw [← this]
      exact (hT j hj).1
    · obtain ⟨j, hj, rfl⟩ := List.mem_map.1 hx
      exact (hT j (List.mem_range.1 hj)).2

instance : Inhabited ByteArray := ⟨⟨#[]⟩⟩
instance : Inhabited Col := ⟨⟨⟨#[]⟩, 0⟩⟩
instance : Inhabited Tab := ⟨⟨⟨#[]⟩, [], []⟩⟩

theorem Try.cellsStr : Try.prog.cellsOf 9 = 1 := by kernel_rfl
theorem Try.cellsInt : Try.prog.cellsOf 3 = 1 := by kernel_rfl

theorem open_row5 {W : World} {base fuel : Nat} {spare : Nat → Bool} {held : Bool} {cs : List Value} {y : DataW H × List MemPlace} (hf : DataW.trod enc Try.prog W base spare held fuel 31 cs = some y) (hz : ∀ n ∈ y.1.weights Try.prog 31, n ≤ reachBytes) :
    ∃ (q : Option Addr) (l : List Val) (c : Nat), cs = [.slice q l.length c] ∧ l.length ≤ c ∧ c ≤ 9223372036854775807 ∧ l.length * 32 ≤ reachBytes ∧ ValsA W 0 W.heap.size q l := by
  have hB : Try.prog.bytesOf 37 = 32 := by kernel_rfl
  obtain ⟨q, l, c, h1, h2, h3, h4, h5, _⟩ := open_arr Try.underlying31 Try.cellsVal (by omega) (valC W) (fun _ => True) hf hz (fun cs y n htr _ g o hk => by
    obtain ⟨x, rfl, _⟩ := cells_val htr
    exact ⟨x, ⟨hk 0 _ (by omega) rfl, hk 1 _ (by omega) rfl, hk 2 _ (by omega) rfl⟩, trivial⟩)
  rw [hB] at h4
  exact ⟨q, l, c, h1, h2, h3, h4, h5⟩

theorem open_cols5 {W : World} {base fuel : Nat} {spare : Nat → Bool} {held : Bool} {cs : List Value} {y : DataW H × List MemPlace} (hf : DataW.trod enc Try.prog W base spare held fuel 27 cs = some y) (hz : ∀ n ∈ y.1.weights Try.prog 27, n ≤ reachBytes) :
    ∃ (q : Option Addr) (l : List Col) (c : Nat), cs = [.slice q l.length c] ∧ l.length ≤ c ∧ c ≤ 9223372036854775807 ∧ l.length * 24 ≤ reachBytes ∧ ColsA W 0 W.heap.size q l := by
  have hB : Try.prog.bytesOf 39 = 24 := by kernel_rfl
  have hC : Try.prog.cellsOf 39 = 2 := by kernel_rfl
  obtain ⟨q, l, c, h1, h2, h3, h4, h5, _⟩ := open_arr Try.underlying27 hC (by omega) (colC W) (fun _ => True) hf hz (fun cs y n htr _ g o hk => by
    obtain ⟨y0, y1, m, _, hl, e0, e1⟩ := trod_struct2 Try.underlying39 htr
    rw [hC] at hl
    match cs, hl with
    | [v0, v1], _ =>
      obtain ⟨s, i0, _, hs⟩ := DataW.trod_string Try.underlying9 e0
      obtain ⟨a, i1, _, wa⟩ := DataW.trod_int Try.underlying3 e1
      simp [Try.cellsStr, Try.cellsInt] at i0 i1
      subst i0 i1
      exact ⟨⟨s, a⟩, ⟨⟨hk 0 _ (by omega) rfl, hk 1 _ (by omega) rfl⟩, by unfold maxLen at hs; show s.size ≤ _; omega⟩, trivial⟩)
  rw [hB] at h4
  exact ⟨q, l, c, h1, h2, h3, h4, h5⟩

theorem open_rows5 {W : World} {base fuel : Nat} {spare : Nat → Bool} {held : Bool} {cs : List Value} {y : DataW H × List MemPlace} (hf : DataW.trod enc Try.prog W base spare held fuel 28 cs = some y) (hz : ∀ n ∈ y.1.weights Try.prog 28, n ≤ reachBytes) :
    ∃ (q : Option Addr) (l : List (List Val)) (c : Nat), cs = [.slice q l.length c] ∧ l.length ≤ c ∧ c ≤ 9223372036854775807 ∧ l.length * 24 ≤ reachBytes ∧ RowsA W 0 W.heap.size q l ∧ ∀ r ∈ l, r.length * 32 ≤ reachBytes := by
  have hB : Try.prog.bytesOf 31 = 24 := by kernel_rfl
  have hC : Try.prog.cellsOf 31 = 1 := by kernel_rfl
  obtain ⟨q, l, c, h1, h2, h3, h4, h5, h6⟩ := open_arr Try.underlying28 hC (by omega) (rowC W 0 W.heap.size) (fun r => r.length * 32 ≤ reachBytes) hf hz (fun cs y n htr hw g o hk => by
    obtain ⟨q, l, c, rfl, a, b, d, e⟩ := open_row5 htr hw
    exact ⟨l, ⟨q, c, hk 0 _ (by omega) rfl, a, b, e⟩, d⟩)
  rw [hB] at h4
  exact ⟨q, l, c, h1, h2, h3, h4, h5, h6⟩

/-- How long the parts of a table are at most. -/
def TabReach (t : Tab) : Prop := t.cols.length * 24 ≤ reachBytes ∧ t.rows.length * 24 ≤ reachBytes ∧ ∀ r ∈ t.rows, r.length * 32 ≤ reachBytes

theorem open_tabs5 {W : World} {base fuel : Nat} {spare : Nat → Bool} {held : Bool} {cs : List Value} {y : DataW H × List MemPlace} (hf : DataW.trod enc Try.prog W base spare held fuel 22 cs = some y) (hz : ∀ n ∈ y.1.weights Try.prog 22, n ≤ reachBytes) :
    ∃ (q : Option Addr) (l : List Tab) (c : Nat), cs = [.slice q l.length c] ∧ l.length ≤ c ∧ c ≤ 9223372036854775807 ∧ l.length * 64 ≤ reachBytes ∧ TabsA W 0 W.heap.size q l ∧ ∀ t ∈ l, TabReach t := by
  have hB : Try.prog.bytesOf 30 = 64 := by kernel_rfl
  have hC : Try.prog.cellsOf 30 = 3 := by kernel_rfl
  have c1 : Try.prog.cellsOf 27 = 1 := by kernel_rfl
  have c2 : Try.prog.cellsOf 28 = 1 := by kernel_rfl
  obtain ⟨q, l, c, h1, h2, h3, h4, h5, h6⟩ := open_arr Try.underlying22 hC (by omega) (tabC W 0 W.heap.size) TabReach hf hz (fun cs y n htr hw g o hk => by
    obtain ⟨y0, y1, y2, m, hy, hl, e0, e1, e2⟩ := trod_struct3 Try.underlying30 htr
    subst hy
    have w1 : ∀ n ∈ y1.1.weights Try.prog 27, n ≤ reachBytes := fun n hn => hw n (by simp [DataW.weights, Try.underlying30, DataW.weightsEach, hn])
    have w2 : ∀ n ∈ y2.1.weights Try.prog 28, n ≤ reachBytes := fun n hn => hw n (by simp [DataW.weights, Try.underlying30, DataW.weightsEach, hn])
    rw [hC] at hl
    match cs, hl with
    | [v0, v1, v2], _ =>
      obtain ⟨s, i0, _, hs⟩ := DataW.trod_string Try.underlying9 e0
      obtain ⟨p1, l1, k1, i1, a1, b1, d1, f1⟩ := open_cols5 e1 w1
      obtain ⟨p2, l2, k2, i2, a2, b2, d2, f2, g2⟩ := open_rows5 e2 w2
      simp [Try.cellsStr, c1, c2] at i0 i1 i2
      subst i0 i1 i2
      exact ⟨⟨s, l1, l2⟩, ⟨⟨hk 0 _ (by omega) rfl, by unfold maxLen at hs; show s.size ≤ _; omega⟩, ⟨p1, k1, hk 1 _ (by omega) rfl, a1, b1, f1⟩, p2, k2, hk 2 _ (by omega) rfl, a2, b2, f2⟩, d1, d2, g2⟩)
  rw [hB] at h4
  exact ⟨q, l, c, h1, h2, h3, h4, h5, h6⟩

/-- An argument that is a list of tables, opened. -/
theorem open_tables {W : World} {spare : Nat → Bool} {r : Reach} {b0 base : Nat} {v : Value} {d : DataW H} {p : List MemPlace} (hv : Value.okWide Try.prog W r b0 22 v) (h : DataW.Trod enc Try.prog W base spare true 22 v d p) (hz : ∀ n ∈ d.weights Try.prog 22, n ≤ reachBytes) :
    ∃ (q : Option Addr) (l : List Tab) (c : Nat), v = .slice q l.length c ∧ l.length ≤ c ∧ c ≤ 9223372036854775807 ∧ l.length * 64 ≤ reachBytes ∧ TabsA W 0 W.heap.size q l ∧ ∀ t ∈ l, TabReach t := by
  obtain ⟨a0, len, cap, rfl⟩ := okWide_slice Try.underlying22 hv
  obtain ⟨fuel, hf⟩ := h
  obtain ⟨q, l, c, h1, h2⟩ := open_tabs5 hf hz
  simp [Value.cells] at h1
  obtain ⟨rfl, rfl, rfl⟩ := h1
  exact ⟨_, l, _, rfl, h2⟩

theorem open_nums5 {W : World} {base fuel : Nat} {spare : Nat → Bool} {held : Bool} {cs : List Value} {y : DataW H × List MemPlace} (hf : DataW.trod enc Try.prog W base spare held fuel 50 cs = some y) (hz : ∀ n ∈ y.1.weights Try.prog 50, n ≤ reachBytes) :
    ∃ (q : Option Addr) (l : List Int) (c : Nat), cs = [.slice q l.length c] ∧ l.length ≤ c ∧ c ≤ 9223372036854775807 ∧ l.length * 8 ≤ reachBytes ∧ IntsA W 0 W.heap.size q l := by
  have hB : Try.prog.bytesOf 3 = 8 := by kernel_rfl
  obtain ⟨q, l, c, h1, h2, h3, h4, h5, _⟩ := open_arr Try.underlying50 Try.cellsInt (by omega) (intC W) (fun _ => True) hf hz (fun cs y n htr _ g o hk => by
    obtain ⟨a, rfl, _, wa⟩ := DataW.trod_int Try.underlying3 htr
    exact ⟨a, hk 0 _ (by omega) rfl, trivial⟩)
  rw [hB] at h4
  exact ⟨q, l, c, h1, h2, h3, h4, h5⟩

/-- An argument that is a list of lists of numbers, opened. -/
theorem open_lists {W : World} {spare : Nat → Bool} {r : Reach} {b0 base : Nat} {v : Value} {d : DataW H} {p : List MemPlace} (hv : Value.okWide Try.prog W r b0 49 v) (h : DataW.Trod enc Try.prog W base spare true 49 v d p) (hz : ∀ n ∈ d.weights Try.prog 49, n ≤ reachBytes) :
    ∃ (q : Option Addr) (l : List (List Int)) (c : Nat), v = .slice q l.length c ∧ l.length ≤ c ∧ c ≤ 9223372036854775807 ∧ ListsA W 0 W.heap.size q l ∧ ∀ x ∈ l, x.length * 8 ≤ reachBytes := by
  have hC : Try.prog.cellsOf 50 = 1 := by kernel_rfl
  obtain ⟨a0, len, cap, rfl⟩ := okWide_slice Try.underlying49 hv
  obtain ⟨fuel, hf⟩ := h
  obtain ⟨q, l, c, h1, h2, h3, _, h5, h6⟩ := open_arr Try.underlying49 hC (by omega) (listC W 0 W.heap.size) (fun x => x.length * 8 ≤ reachBytes) hf hz (fun cs y n htr hw g o hk => by
    obtain ⟨q, l, c, rfl, a, b, d, e⟩ := open_nums5 htr hw
    exact ⟨l, ⟨q, c, hk 0 _ (by omega) rfl, a, b, e⟩, d⟩)
  simp [Value.cells] at h1
  obtain ⟨rfl, rfl, rfl⟩ := h1
  exact ⟨_, l, _, rfl, h2, h3, h5, h6⟩

/-- An argument that is a list of texts, opened. -/
theorem open_strs {W : World} {spare : Nat → Bool} {r : Reach} {b0 base : Nat} {v : Value} {d : DataW H} {p : List MemPlace} (hv : Value.okWide Try.prog W r b0 48 v) (h : DataW.Trod enc Try.prog W base spare true 48 v d p) (hz : ∀ n ∈ d.weights Try.prog 48, n ≤ reachBytes) :
    ∃ (q : Option Addr) (l : List ByteArray) (c : Nat), v = .slice q l.length c ∧ l.length ≤ c ∧ c ≤ 9223372036854775807 ∧ StrsA W 0 W.heap.size q l ∧ ∀ x ∈ l, x.size ≤ reachBytes := by
  obtain ⟨a0, len, cap, rfl⟩ := okWide_slice Try.underlying48 hv
  obtain ⟨fuel, hf⟩ := h
  obtain ⟨q, l, c, h1, h2, h3, _, h5, h6⟩ := open_arr Try.underlying48 Try.cellsStr (by omega) (strC W) (fun x => x.size ≤ reachBytes) hf hz (fun cs y n htr hw g o hk => by
    obtain ⟨s, rfl, hd, hs⟩ := DataW.trod_string Try.underlying9 htr
    have := hw s.data.toList.length (by rw [hd]; simp [DataW.weights])
    rw [Array.length_toList] at this
    exact ⟨s, hk 0 _ (by omega) rfl, this⟩)
  simp [Value.cells] at h1
  obtain ⟨rfl, rfl, rfl⟩ := h1
  exact ⟨_, l, _, rfl, h2, h3, h5, h6⟩
/-- A text. -/
theorem open_word5 {r : Reach} {b0 base : Nat} {W : World} {spare : Nat → Bool} {held : Bool} {v : Value} {d : DataW H} {p : List MemPlace} (hv : Value.okWide Try.prog W r b0 9 v) (h : DataW.Trod enc Try.prog W base spare held 9 v d p) :
    ∃ s : ByteArray, v = .string s ∧ s.size ≤ 9223372036854775807 := by
  obtain ⟨s, rfl⟩ := okWide_string Try.underlying9 hv
  obtain ⟨fuel, hf⟩ := h
  obtain ⟨s', h', _, hs⟩ := DataW.trod_string Try.underlying9 hf
  simp [Value.cells] at h'
  subst h'
  exact ⟨s, rfl, by unfold maxLen at hs; omega⟩
/-- A text, and how long it may be. -/
theorem open_word6 {r : Reach} {b0 base : Nat} {W : World} {spare : Nat → Bool} {held : Bool} {v : Value} {d : DataW H} {p : List MemPlace} (hv : Value.okWide Try.prog W r b0 9 v) (h : DataW.Trod enc Try.prog W base spare held 9 v d p) (hz : ∀ n ∈ d.weights Try.prog 9, n ≤ reachBytes) :
    ∃ s : ByteArray, v = .string s ∧ s.size ≤ reachBytes := by
  obtain ⟨s, rfl⟩ := okWide_string Try.underlying9 hv
  obtain ⟨fuel, hf⟩ := h
  obtain ⟨s', h', hd, _⟩ := DataW.trod_string Try.underlying9 hf
  simp [Value.cells] at h'
  subst h'
  refine ⟨s, rfl, ?_⟩
  simp only [Prod.mk.injEq] at hd
  have := hz s.data.toList.length (by rw [hd.1]; simp [DataW.weights])
  rwa [Array.length_toList] at this
end

end Go.Proofs.Ytkeekefekajfnaa
