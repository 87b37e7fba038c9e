/- An argument that is an expression, opened. An argument that is an expression, opened, with how many operands it may have. Arguments that are rows, or a row, opened: where the values lie, and that each fits its cells. -/
import Derived.Test.YtiidfghdmaipoaaDoorExM
import Derived.Test.YtiidfghdmaipoaaDoorStO
namespace Go.Proofs.YtiidfghdmaipoaaDoor
open Go.ChangeShapes Go.WideShapes Go.ChangeAt Go.RowKit Go.Joins Go.Deep
set_option maxRecDepth 100000

theorem ExL.of {w : World} {q : Option Addr} : ∀ {l : List Ex} {i : Nat}, (∀ (j : Nat) (x : Ex), l[j]? = some x → ∃ g off cs, q = some ⟨g, off, none⟩ ∧ g < w.heap.size ∧ ExM w x cs ∧ ∀ (k : Nat) u, cs[k]? = some u → w.cell? ⟨g, off + (i + j) * 9 + k, none⟩ = some u) → ExL w q i l
  | [], i, _ => by rw [ExL]; trivial
  | x :: r, i, h => by
    rw [ExL]
    refine ⟨?_, ExL.of fun j y hy => ?_⟩
    · obtain ⟨g, off, cs, h1, h2, h3, h4⟩ := h 0 x rfl
      exact ⟨g, off, cs, h1, h2, h3, fun k u hu => h4 k u hu⟩
    · obtain ⟨g, off, cs, h1, h2, h3, h4⟩ := h (j + 1) y (by simpa using hy)
      refine ⟨g, off, cs, h1, h2, h3, fun k u hu => ?_⟩
      rw [show i + 1 + j = i + (j + 1) by omega]
      exact h4 k u hu

instance : Inhabited Ex := ⟨.mk 0 zeroVal 0 0 0 ⟨#[]⟩ []⟩
theorem Tryd.cellsExpr : Tryd.prog.cellsOf 26 = 9 := by kernel_rfl

section
variable {H : Type} {enc : TypeId × Value → H}

theorem size_in {l m : List (DataW H)} {d : DataW H} (h : d ∈ l) : SizeOf.sizeOf d < SizeOf.sizeOf (DataW.slice l m) := by
  have := List.sizeOf_lt_of_mem h
  simp only [DataW.slice.sizeOf_spec]
  omega
theorem size_agg {l : List (DataW H)} {d : DataW H} (h : d ∈ l) : SizeOf.sizeOf d < SizeOf.sizeOf (DataW.agg l) := by
  have := List.sizeOf_lt_of_mem h
  simp only [DataW.agg.sizeOf_spec]
  omega

theorem open_expr : ∀ (N : Nat) {W : World} {base n : Nat} {spare : Nat → Bool} {held : Bool} {cs : List Value} {y : DataW H × List MemPlace}, SizeOf.sizeOf y.1 < N → DataW.trod enc Tryd.prog W base spare held n 26 cs = some y → ∃ x : Ex, ExM W x cs ∧ cs.length = 9
  | 0, _, _, _, _, _, _, _, h, _ => absurd h (by omega)
  | N + 1, W, base, n, spare, held, cs, y, hN, h => by
    obtain ⟨xs, n', _, rfl, hl, hlen, hf⟩ := DataW.trod_struct Tryd.underlying26 h
    rw [Tryd.cellsExpr] at hl
    match xs, hlen, cs, hl with
    | [y0, y1, y2, y3, y4, y5, y6], _, [v0, v1, v2, v3, v4, v5, v6, v7, v8], _ =>
      have h0 := hf 0 _ rfl
      have h1 := hf 1 _ rfl
      have h2 := hf 2 _ rfl
      have h3 := hf 3 _ rfl
      have h4 := hf 4 _ rfl
      have h5 := hf 5 _ rfl
      have h6 := hf 6 _ rfl
      clear hf h
      simp only [List.getElem?_cons_zero, List.getElem?_cons_succ] at h0 h1 h2 h3 h4 h5 h6
      obtain ⟨op, e0, _, _⟩ := DataW.trod_int Tryd.underlying3 h0
      obtain ⟨v, e1, r1, r2, r3⟩ := cells_val h1
      obtain ⟨rel, e2, _, _⟩ := DataW.trod_int Tryd.underlying3 h2
      obtain ⟨col, e3, _, _⟩ := DataW.trod_int Tryd.underlying3 h3
      obtain ⟨nn, e4, _, _⟩ := DataW.trod_int Tryd.underlying3 h4
      obtain ⟨s, e5, _, _⟩ := DataW.trod_string Tryd.underlying9 h5
      have hN6 : SizeOf.sizeOf y6.1 < N := by
        have h := size_agg (H := H) (l := [y0, y1, y2, y3, y4, y5, y6].map (·.1)) (d := y6.1) (by simp)
        have hN' : SizeOf.sizeOf (DataW.agg ([y0, y1, y2, y3, y4, y5, y6].map (·.1))) < N + 1 := hN
        omega
      clear hN
      simp [Tryd.cellsInt, Tryd.cellsStr, Tryd.cellsVal] at e0 e1 e2 e3 e4 e5
      obtain ⟨rfl, rfl, rfl⟩ := e1
      subst e0 e2 e3 e4 e5
      have hS : Tryd.prog.cellsOf 24 = 1 := by kernel_rfl
      rcases open_slice Tryd.underlying24 h6 with ⟨hc, _⟩ | ⟨a, len, cap, m, n2, D, Pl, hc, hb, hl2, hm, hmm, hx, hi⟩
      · simp [hS] at hc
        subst hc
        exact ⟨.mk op v rel col nn s [], ExM.iff.2 ⟨⟨r1, r2, r3⟩, none, 0, rfl, Nat.le_refl _, by rw [ExL]; trivial⟩, rfl⟩
      · simp [hS] at hc
        subst hc
        have hlm : len ≤ m := by rw [hmm]; split <;> omega
        rw [Tryd.cellsExpr] at hi
        have each : ∀ i, i < len → ∃ x : Ex, ∃ cs', (∀ k, k < 9 → W.cell? (a.add (i * 9 + k)) = cs'[k]?) ∧ cs'.length = 9 ∧ ExM W x cs' := by
          intro i hil
          obtain ⟨cs', hcs, htr⟩ := hi i (by omega)
          obtain ⟨_, hlen, hat⟩ := World.cells?_some hcs
          obtain ⟨x, hx2, _⟩ := open_expr N (y := (D i, Pl i)) (by
            have h := size_in (H := H) (l := (List.range len).map D) (m := (List.range (m - len)).map fun j => D (len + j)) (d := D i) (List.mem_map.2 ⟨i, List.mem_range.2 hil, rfl⟩)
            rw [hx] at hN6
            have hN7 : SizeOf.sizeOf (DataW.slice ((List.range len).map D) ((List.range (m - len)).map fun j => D (len + j))) < N := hN6
            show SizeOf.sizeOf (D i) < N
            omega) htr
          exact ⟨x, cs', fun k hk => by have h1 := hat k hk; rw [add_add] at h1; exact h1, hlen, hx2⟩
        have haddr : 0 < len → a = ⟨a.block, a.off, none⟩ ∧ a.block < W.heap.size := by
          intro hl0
          obtain ⟨_, cs', hk, hlen, _⟩ := each 0 hl0
          have h1 := hk 0 (by omega)
          rw [Nat.zero_mul, Nat.zero_add, Addr.add, if_pos rfl, List.getElem?_eq_getElem (by omega)] at h1
          exact addr_here h1
        obtain ⟨T, hT⟩ := choose_lt each
        have hlen : ((List.range len).map T).length = len := by simp
        refine ⟨.mk op v rel col nn s ((List.range len).map T), ExM.iff.2 ⟨⟨r1, r2, r3⟩, some a, cap, by rw [hlen], by rw [hlen]; exact hl2, ExL.of fun j x hx => ?_⟩, rfl⟩
        have hj : j < len := by
          rcases Nat.lt_or_ge j len with h | h
          · exact h
          · rw [List.getElem?_eq_none (by rw [hlen]; exact h)] at hx; cases hx
        have hTx : T j = x := by simpa [hj] using hx
        obtain ⟨cs', hk, hl9, hx9⟩ := hT j hj
        rw [hTx] at hx9
        obtain ⟨ha, hlt⟩ := haddr (by omega)
        refine ⟨a.block, a.off, cs', by rw [← ha], hlt, hx9, fun k u hu => ?_⟩
        have hk9 : k < 9 := by
          rcases Nat.lt_or_ge k 9 with h | h
          · exact h
          · rw [List.getElem?_eq_none (by omega)] at hu; cases hu
        have h1 := hk k hk9
        rw [hu, ha, addr_off] at h1
        rw [Nat.zero_add, Nat.add_assoc]
        exact h1

/-- An argument that is an expression, opened. -/
theorem open_ex {r : Reach} {b0 base : Nat} {W : World} {spare : Nat → Bool} {held : Bool} {v : Value} {d : DataW H} {p : List MemPlace} (hv : Value.okWide Tryd.prog W r b0 26 v) (h : DataW.Trod enc Tryd.prog W base spare held 26 v d p) :
    ∃ (x : Ex) (cs : List Value), v = .agg cs.toArray ∧ ExM W x cs := by
  obtain ⟨cs, rfl, _⟩ := okWide_struct Tryd.underlying26 hv
  obtain ⟨fuel, hf⟩ := h
  obtain ⟨x, hx, _⟩ := open_expr _ (Nat.lt_succ_self _) hf
  exact ⟨x, cs.toList, by simp, hx⟩
end
end Go.Proofs.YtiidfghdmaipoaaDoor

namespace Go.Proofs.YtiidfghdmaipoaaDoor
open Go.ChangeShapes Go.WideShapes Go.ChangeAt Go.RowKit Go.Joins Go.Deep
set_option maxRecDepth 100000
section
variable {H : Type} {enc : TypeId × Value → H}
theorem open_ex2 {r : Reach} {b0 base : Nat} {W : World} {spare : Nat → Bool} {held : Bool} {v : Value} {d : DataW H} {p : List MemPlace} (hv : Value.okWide Tryd.prog W r b0 26 v) (h : DataW.Trod enc Tryd.prog W base spare held 26 v d p) :
    ∃ (x : Ex) (cs : List Value), v = .agg cs.toArray ∧ ExM W x cs ∧ x.l.length ≤ 9223372036854775807 := by
  obtain ⟨cs, rfl, _⟩ := okWide_struct Tryd.underlying26 hv
  obtain ⟨fuel, hf⟩ := h
  obtain ⟨x, hx, _⟩ := open_expr _ (Nat.lt_succ_self _) hf
  refine ⟨x, cs.toList, by simp, hx, ?_⟩
  obtain ⟨op, v, rel, col, nn, s, l⟩ := x
  rw [ExM.iff] at hx
  obtain ⟨-, q, c, e, -, -⟩ := hx
  rw [e] at hf
  obtain ⟨xs, n', _, ex, hl, hlen, hf⟩ := DataW.trod_struct Tryd.underlying26 hf
  match xs, hlen with
  | [y0, y1, y2, y3, y4, y5, y6], _ =>
    have h6 := hf 6 _ rfl
    clear hf
    have hS : Tryd.prog.cellsOf 24 = 1 := by kernel_rfl
    simp only [List.getElem?_cons_zero, List.getElem?_cons_succ] at h6
    rcases open_slice Tryd.underlying24 h6 with ⟨hc, _⟩ | ⟨a, len, cap, m, n2, D, Pl, hc, hb, hl2, hm, hmm, hx, hi⟩
    · simp [hS, exCells] at hc
      rw [hc.2.1]
      exact Nat.zero_le _
    · simp [hS, exCells] at hc
      show l.length ≤ _
      unfold maxLen at hm
      omega
end
end Go.Proofs.YtiidfghdmaipoaaDoor

namespace Go.Proofs.YtiidfghdmaipoaaDoor
open Go.ChangeShapes Go.WideShapes Go.ChangeAt Go.RowKit Go.Joins Go.Deep
set_option maxRecDepth 100000

section
variable {H : Type} {enc : TypeId × Value → H}
theorem open_valsC {W : World} {base fuel : Nat} {spare : Nat → Bool} {held : Bool} {cs : List Value} {y : DataW H × List MemPlace} (hf : DataW.trod enc Tryd.prog W base spare held fuel 61 cs = some y) (hz : ∀ n ∈ y.1.weights Tryd.prog 61, n ≤ reachBytes) :
    ∃ (q : Option Addr) (l : List Val) (c : Nat), cs = [.slice q l.length c] ∧ l.length ≤ c ∧ c ≤ 9223372036854775807 ∧ ValsA W 0 W.heap.size q l ∧ ∀ x ∈ l, okVal x := by
  obtain ⟨q, l, c, h1, h2, h3, _, h5, h6⟩ := open_arr Tryd.underlying61 Tryd.cellsVal (by omega) (valC W) okVal hf hz (fun cs y n htr _ g o hk => by
    obtain ⟨x, rfl, e1, e2, e3⟩ := cells_val htr
    exact ⟨x, ⟨hk 0 _ (by omega) rfl, hk 1 _ (by omega) rfl, hk 2 _ (by omega) rfl⟩, e1, e2, e3⟩)
  exact ⟨q, l, c, h1, h2, h3, h5, h6⟩
/-- An argument that is a row, opened. -/
theorem open_row8 {W : World} {spare : Nat → Bool} {held : Bool} {r : Reach} {b0 base : Nat} {v : Value} {d : DataW H} {p : List MemPlace} (hv : Value.okWide Tryd.prog W r b0 61 v) (h : DataW.Trod enc Tryd.prog W base spare held 61 v d p) (hz : ∀ n ∈ d.weights Tryd.prog 61, n ≤ reachBytes) :
    ∃ (q : Option Addr) (l : List Val) (c : Nat), v = .slice q l.length c ∧ l.length ≤ c ∧ c ≤ 9223372036854775807 ∧ ValsA W 0 W.heap.size q l ∧ ∀ x ∈ l, okVal x := by
  obtain ⟨a0, len, cap, rfl⟩ := okWide_slice Tryd.underlying61 hv
  obtain ⟨fuel, hf⟩ := h
  obtain ⟨q, l, c, h1, h2, h3, h5, h6⟩ := open_valsC hf hz
  simp [Value.cells] at h1
  obtain ⟨rfl, rfl, rfl⟩ := h1
  exact ⟨_, l, _, rfl, h2, h3, h5, h6⟩
/-- An argument that is a list of rows, opened. -/
theorem open_rows8 {W : World} {spare : Nat → Bool} {held : Bool} {r : Reach} {b0 base : Nat} {v : Value} {d : DataW H} {p : List MemPlace} (hv : Value.okWide Tryd.prog W r b0 60 v) (h : DataW.Trod enc Tryd.prog W base spare held 60 v d p) (hz : ∀ n ∈ d.weights Tryd.prog 60, n ≤ reachBytes) :
    ∃ (q : Option Addr) (l : List (List Val)) (c : Nat), v = .slice q l.length c ∧ l.length ≤ c ∧ c ≤ 9223372036854775807 ∧ RowsA W 0 W.heap.size q l ∧ ∀ r ∈ l, ∀ x ∈ r, okVal x := by
  have hC : Tryd.prog.cellsOf 61 = 1 := by kernel_rfl
  obtain ⟨a0, len, cap, rfl⟩ := okWide_slice Tryd.underlying60 hv
  obtain ⟨fuel, hf⟩ := h
  obtain ⟨q, l, c, h1, h2, h3, _, h5, h6⟩ := open_arr Tryd.underlying60 hC (by omega) (rowC W 0 W.heap.size) (fun r => ∀ x ∈ r, okVal x) hf hz (fun cs y n htr hw g o hk => by
    obtain ⟨q, l, c, rfl, a, b, d, e⟩ := open_valsC htr hw
    exact ⟨l, ⟨q, c, hk 0 _ (by omega) rfl, a, b, d⟩, e⟩)
  simp [Value.cells] at h1
  obtain ⟨rfl, rfl, rfl⟩ := h1
  exact ⟨_, l, _, rfl, h2, h3, h5, h6⟩
end

end Go.Proofs.YtiidfghdmaipoaaDoor
