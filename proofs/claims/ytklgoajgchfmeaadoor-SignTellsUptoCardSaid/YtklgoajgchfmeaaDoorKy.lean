/- A part of the proof. -/
import Derived.Test.YtklgoajgchfmeaaDoorKc
import Derived.Test.YtklgoajgchfmeaaDoorKg
import Derived.Test.YtklgoajgchfmeaaDoorKr
import Derived.Test.YtklgoajgchfmeaaDoorSnRc
import Derived.Test.YtklgoajgchfmeaaDoorKx
set_option linter.unusedVariables false
set_option linter.unusedSimpArgs false
namespace Go.Proofs.YtklgoajgchfmeaaDoor
open Go.ChangeShapes Go.WideShapes Go.ChangeAt Go.RowKit Go.Joins Go.Deep
set_option maxRecDepth 100000
theorem ExL.of {w : World} {q : Option Addr} : ∀ {l : List Ex} {i : Nat}, (∀ (j : Nat) (x : Ex), l[j]? = some x → ∃ g off cs, q = some ⟨g, off, none⟩ ∧ g < w.heap.size ∧ ExM w x cs ∧ ∀ (k : Nat) u, cs[k]? = some u → w.cell? ⟨g, off + (i + j) * 9 + k, none⟩ = some u) → ExL w q i l
  | [], i, _ => by rw [ExL]; trivial
  | x :: r, i, h => by
    rw [ExL]
    refine ⟨?_, ExL.of fun j y hy => ?_⟩
    · obtain ⟨g, off, cs, h1, h2, h3, h4⟩ := h 0 x rfl
      exact ⟨g, off, cs, h1, h2, h3, fun k u hu => h4 k u hu⟩
    · obtain ⟨g, off, cs, h1, h2, h3, h4⟩ := h (j + 1) y (by simpa using hy)
      refine ⟨g, off, cs, h1, h2, h3, fun k u hu => ?_⟩
      rw [show i + 1 + j = i + (j + 1) by omega]
      exact h4 k u hu
instance : Inhabited Ex := ⟨.mk 0 zeroVal 0 0 0 ⟨#[]⟩ []⟩
theorem Tryd.cellsExpr : Tryd.prog.cellsOf 26 = 9 := by kernel_rfl
section
variable {H : Type} {enc : TypeId × Value → H}
theorem size_in {l m : List (DataW H)} {d : DataW H} (h : d ∈ l) : SizeOf.sizeOf d < SizeOf.sizeOf (DataW.slice l m) := by
  have := List.sizeOf_lt_of_mem h
  simp only [DataW.slice.sizeOf_spec]
  omega
theorem size_agg {l : List (DataW H)} {d : DataW H} (h : d ∈ l) : SizeOf.sizeOf d < SizeOf.sizeOf (DataW.agg l) := by
  have := List.sizeOf_lt_of_mem h
  simp only [DataW.agg.sizeOf_spec]
  omega
theorem open_expr : ∀ (N : Nat) {W : World} {base n : Nat} {spare : Nat → Bool} {held : Bool} {cs : List Value} {y : DataW H × List MemPlace}, SizeOf.sizeOf y.1 < N → DataW.trod enc Tryd.prog W base spare held n 26 cs = some y → ∃ x : Ex, ExM W x cs ∧ cs.length = 9
  | 0, _, _, _, _, _, _, _, h, _ => absurd h (by omega)
  | N + 1, W, base, n, spare, held, cs, y, hN, h => by
    obtain ⟨xs, n', _, rfl, hl, hlen, hf⟩ := DataW.trod_struct Tryd.underlying26 h
    rw [Tryd.cellsExpr] at hl
    match xs, hlen, cs, hl with
    | [y0, y1, y2, y3, y4, y5, y6], _, [v0, v1, v2, v3, v4, v5, v6, v7, v8], _ =>
      have h0 := hf 0 _ rfl
      have h1 := hf 1 _ rfl
      have h2 := hf 2 _ rfl
      have h3 := hf 3 _ rfl
      have h4 := hf 4 _ rfl
      have h5 := hf 5 _ rfl
      have h6 := hf 6 _ rfl
      clear hf h
      simp only [List.getElem?_cons_zero, List.getElem?_cons_succ] at h0 h1 h2 h3 h4 h5 h6
      obtain ⟨op, e0, _, _⟩ := DataW.trod_int Tryd.underlying3 h0
      obtain ⟨v, e1, r1, r2, r3⟩ := cells_val h1
      obtain ⟨rel, e2, _, _⟩ := DataW.trod_int Tryd.underlying3 h2
      obtain ⟨col, e3, _, _⟩ := DataW.trod_int Tryd.underlying3 h3
      obtain ⟨nn, e4, _, _⟩ := DataW.trod_int Tryd.underlying3 h4
      obtain ⟨s, e5, _, _⟩ := DataW.trod_string Tryd.underlying9 h5
      have hN6 : SizeOf.sizeOf y6.1 < N := by
        have h := size_agg (H := H) (l := [y0, y1, y2, y3, y4, y5, y6].map (·.1)) (d := y6.1) (by simp)
        have hN' : SizeOf.sizeOf (DataW.agg ([y0, y1, y2, y3, y4, y5, y6].map (·.1))) < N + 1 := hN
        omega
      clear hN
      simp [Tryd.cellsInt, Tryd.cellsStr, Tryd.cellsVal] at e0 e1 e2 e3 e4 e5
      obtain ⟨rfl, rfl, rfl⟩ := e1
      subst e0 e2 e3 e4 e5
      have hS : Tryd.prog.cellsOf 24 = 1 := by kernel_rfl
      rcases open_slice Tryd.underlying24 h6 with ⟨hc, _⟩ | ⟨a, len, cap, m, n2, D, Pl, hc, hb, hl2, hm, hmm, hx, hi⟩
      · simp [hS] at hc
        subst hc
        exact ⟨.mk op v rel col nn s [], ExM.iff.2 ⟨⟨r1, r2, r3⟩, none, 0, rfl, Nat.le_refl _, by rw [ExL]; trivial⟩, rfl⟩
      · simp [hS] at hc
        subst hc
        have hlm : len ≤ m := by rw [hmm]; split <;> omega
        rw [Tryd.cellsExpr] at hi
        have each : ∀ i, i < len → ∃ x : Ex, ∃ cs', (∀ k, k < 9 → W.cell? (a.add (i * 9 + k)) = cs'[k]?) ∧ cs'.length = 9 ∧ ExM W x cs' := by
          intro i hil
          obtain ⟨cs', hcs, htr⟩ := hi i (by omega)
          obtain ⟨_, hlen, hat⟩ := World.cells?_some hcs
          obtain ⟨x, hx2, _⟩ := open_expr N (y := (D i, Pl i)) (by
            have h := size_in (H := H) (l := (List.range len).map D) (m := (List.range (m - len)).map fun j => D (len + j)) (d := D i) (List.mem_map.2 ⟨i, List.mem_range.2 hil, rfl⟩)
            rw [hx] at hN6
            have hN7 : SizeOf.sizeOf (DataW.slice ((List.range len).map D) ((List.range (m - len)).map fun j => D (len + j))) < N := hN6
            show SizeOf.sizeOf (D i) < N
            omega) htr
          exact ⟨x, cs', fun k hk => by have h1 := hat k hk; rw [add_add] at h1; exact h1, hlen, hx2⟩
        have haddr : 0 < len → a = ⟨a.block, a.off, none⟩ ∧ a.block < W.heap.size := by
          intro hl0
          obtain ⟨_, cs', hk, hlen, _⟩ := each 0 hl0
          have h1 := hk 0 (by omega)
          rw [Nat.zero_mul, Nat.zero_add, Addr.add, if_pos rfl, List.getElem?_eq_getElem (by omega)] at h1
          exact addr_here h1
        obtain ⟨T, hT⟩ := choose_lt each
        have hlen : ((List.range len).map T).length = len := by simp
        refine ⟨.mk op v rel col nn s ((List.range len).map T), ExM.iff.2 ⟨⟨r1, r2, r3⟩, some a, cap, by rw [hlen], by rw [hlen]; exact hl2, ExL.of fun j x hx => ?_⟩, rfl⟩
        have hj : j < len := by
          rcases Nat.lt_or_ge j len with h | h
          · exact h
          · rw [List.getElem?_eq_none (by rw [hlen]; exact h)] at hx; cases hx
        have hTx : T j = x := by simpa [hj] using hx
        obtain ⟨cs', hk, hl9, hx9⟩ := hT j hj
        rw [hTx] at hx9
        obtain ⟨ha, hlt⟩ := haddr (by omega)
        refine ⟨a.block, a.off, cs', by rw [← ha], hlt, hx9, fun k u hu => ?_⟩
        have hk9 : k < 9 := by
          rcases Nat.lt_or_ge k 9 with h | h
          · exact h
          · rw [List.getElem?_eq_none (by omega)] at hu; cases hu
        have h1 := hk k hk9
        rw [hu, ha, addr_off] at h1
        rw [Nat.zero_add, Nat.add_assoc]
        exact h1
end
open Go.ChangeShapes Go.WideShapes Go.ChangeAt Go.RowKit Go.Joins Go.Deep
set_option maxRecDepth 100000
section
variable {H : Type} {enc : TypeId × Value → H}
end
open Go.ChangeShapes Go.WideShapes Go.ChangeAt Go.RowKit Go.Joins Go.Deep
set_option maxRecDepth 100000
section
variable {H : Type} {enc : TypeId × Value → H}
theorem Tryd.bytesExpr : Tryd.prog.bytesOf 26 = 104 := by kernel_rfl
def exprC (W : World) : Nat → Nat → Ex → Prop := fun g o x => ∃ cs, ExM W x cs ∧ ∀ (k : Nat) u, cs[k]? = some u → W.cell? ⟨g, o + k, none⟩ = some u
theorem exprs_in {W : World} {q : Option Addr} {l : List Ex} (h : ArrA 0 W.heap.size q 9 l (exprC W)) : ExL W q 0 l := ExL.of fun j x hx => by
  have hj : j < l.length := (List.getElem?_eq_some_iff.1 hx).1
  obtain ⟨g, off, h1, -, h3, h4⟩ := h 0 (by omega)
  obtain ⟨cs, h5, h6⟩ := h4 j x hx
  exact ⟨g, off, cs, h1, h3, h5, fun k u hu => by rw [Nat.zero_add]; exact h6 k u hu⟩
theorem open_exprsC {W : World} {base fuel : Nat} {spare : Nat → Bool} {held : Bool} {cs : List Value} {y : DataW H × List MemPlace} (hf : DataW.trod enc Tryd.prog W base spare held fuel 24 cs = some y) (hz : ∀ n ∈ y.1.weights Tryd.prog 24, n ≤ reachBytes) :
    ∃ (q : Option Addr) (l : List Ex) (c : Nat), cs = [.slice q l.length c] ∧ l.length ≤ c ∧ c ≤ 9223372036854775807 ∧ ExL W q 0 l ∧ l.length * 104 ≤ 140737488355328 := by
  obtain ⟨q, l, c, h1, h2, h3, h4, h5, _⟩ := open_arr Tryd.underlying24 Tryd.cellsExpr (by omega) (exprC W) (fun _ => True) hf hz (fun cs y n htr _ g o hk => by
    obtain ⟨x, hx, hl⟩ := open_expr _ (Nat.lt_succ_self _) htr
    exact ⟨x, ⟨cs, hx, fun k u hu => hk k u (by rw [← hl]; exact (List.getElem?_eq_some_iff.1 hu).1) hu⟩, trivial⟩)
  rw [Tryd.bytesExpr] at h4
  exact ⟨q, l, c, h1, h2, h3, exprs_in h5, Nat.le_trans h4 (by decide)⟩
theorem open_exprs {W : World} {spare : Nat → Bool} {held : Bool} {r : Reach} {b0 base : Nat} {v : Value} {d : DataW H} {p : List MemPlace} (hv : Value.okWide Tryd.prog W r b0 24 v) (h : DataW.Trod enc Tryd.prog W base spare held 24 v d p) (hz : ∀ n ∈ d.weights Tryd.prog 24, n ≤ reachBytes) :
    ∃ (q : Option Addr) (l : List Ex) (c : Nat), v = .slice q l.length c ∧ l.length ≤ c ∧ c ≤ 9223372036854775807 ∧ ExL W q 0 l ∧ l.length * 104 ≤ 140737488355328 := by
  obtain ⟨a0, len, cap, rfl⟩ := okWide_slice Tryd.underlying24 hv
  obtain ⟨fuel, hf⟩ := h
  obtain ⟨q, l, c, h1, h2, h3, h5, h6⟩ := open_exprsC hf hz
  simp [Value.cells] at h1
  obtain ⟨rfl, rfl, rfl⟩ := h1
  exact ⟨_, l, _, rfl, h2, h3, h5, h6⟩
theorem slice_cell {t e : TypeId} (ht : Tryd.prog.underlying t = some (.slice e)) {W : World} {base fuel : Nat} {spare : Nat → Bool} {held : Bool} {cs : List Value} {y : DataW H × List MemPlace} (hf : DataW.trod enc Tryd.prog W base spare held fuel t cs = some y) : ∃ q n c, cs = [.slice q n c] := by
  rcases open_slice ht hf with ⟨hc, _⟩ | ⟨a, len, cap, m, n, D, Pl, hc, _⟩
  · exact ⟨_, _, _, hc⟩
  · exact ⟨_, _, _, hc⟩
theorem open_intsC {W : World} {base fuel : Nat} {spare : Nat → Bool} {held : Bool} {cs : List Value} {y : DataW H × List MemPlace} (hf : DataW.trod enc Tryd.prog W base spare held fuel 40 cs = some y) (hz : ∀ n ∈ y.1.weights Tryd.prog 40, n ≤ reachBytes) :
    ∃ (q : Option Addr) (l : List Int) (c : Nat), cs = [.slice q l.length c] ∧ l.length ≤ c ∧ c ≤ 9223372036854775807 ∧ IntsA W 0 W.heap.size q l ∧ ∀ z ∈ l, inR z = true := by
  obtain ⟨q, l, c, h1, h2, h3, h4, h5, h6⟩ := open_arr Tryd.underlying40 Tryd.cellsInt (by omega) (intC W) (fun z => inR z = true) hf hz (fun cs y n htr _ g o hk => by
    obtain ⟨a, rfl, _, wa⟩ := DataW.trod_int Tryd.underlying3 htr
    exact ⟨a, hk 0 _ (by omega) rfl, by simpa [inR, Lit.wf, IntKind.min, IntKind.signed, IntKind.bits] using wa⟩)
  exact ⟨q, l, c, h1, h2, h3, h5, h6⟩
theorem open_block {W : World} {spare : Nat → Bool} {held : Bool} {rr : Reach} {b0 base : Nat} {v : Value} {d : DataW H} {p : List MemPlace} (hv : Value.okWide Tryd.prog W rr b0 43 v) (h : DataW.Trod enc Tryd.prog W base spare held 43 v d p) (hz : ∀ n ∈ d.weights Tryd.prog 43, n ≤ reachBytes) :
    ∃ (r : RawK) (tabs : List Int) (L : List Ex), v = .agg r.cells.toArray ∧ BlkIn W r tabs L ∧ inR r.core = true ∧ ∀ t ∈ tabs, inR t = true := by
  obtain ⟨ca, rfl, _⟩ := okWide_struct Tryd.underlying43 hv
  obtain ⟨cs, rfl⟩ : ∃ l : List Value, ca = l.toArray := ⟨ca.toList, by simp⟩
  obtain ⟨fuel, hf⟩ := h
  have hf : DataW.trod enc Tryd.prog W base spare held fuel 43 cs = some (d, p) := by simpa [Value.cells] using hf
  obtain ⟨xs, n', -, ex, hl, hlen, hf⟩ := DataW.trod_struct Tryd.underlying43 hf
  rw [show Tryd.prog.cellsOf 43 = 11 by kernel_rfl] at hl
  match xs, hlen, cs, hl with
  | [y0, y1, y2, y3, y4, y5, y6, y7, y8, y9, y10], _, [u0, u1, u2, u3, u4, u5, u6, u7, u8, u9, u10], _ =>
    have h0 := hf 0 _ rfl
    have h1 := hf 1 _ rfl
    have h2 := hf 2 _ rfl
    have h3 := hf 3 _ rfl
    have h4 := hf 4 _ rfl
    have h5 := hf 5 _ rfl
    have h6 := hf 6 _ rfl
    have h7 := hf 7 _ rfl
    have h8 := hf 8 _ rfl
    have h9 := hf 9 _ rfl
    have h10 := hf 10 _ rfl
    clear hf
    simp only [List.getElem?_cons_zero, List.getElem?_cons_succ] at h0 h1 h2 h3 h4 h5 h6 h7 h8 h9 h10
    have hd : d = DataW.agg (List.map (fun x => x.1) [y0, y1, y2, y3, y4, y5, y6, y7, y8, y9, y10]) := congrArg Prod.fst ex
    subst hd
    have z0 : ∀ n ∈ y0.1.weights Tryd.prog 40, n ≤ reachBytes := fun n hn => hz n (by
      simp only [DataW.weights, Tryd.underlying43]
      exact DataW.weights_mem_each (j := 0) (t := 40) rfl rfl n hn)
    have z4 : ∀ n ∈ y4.1.weights Tryd.prog 24, n ≤ reachBytes := fun n hn => hz n (by
      simp only [DataW.weights, Tryd.underlying43]
      exact DataW.weights_mem_each (j := 4) (t := 24) rfl rfl n hn)
    have hS : Tryd.prog.cellsOf 24 = 1 := by kernel_rfl
    have hI : Tryd.prog.cellsOf 40 = 1 := by kernel_rfl
    have hJ : Tryd.prog.cellsOf 41 = 1 := by kernel_rfl
    have hB : Tryd.prog.cellsOf 4 = 1 := by kernel_rfl
    obtain ⟨qt, T, ct, e0, a1, a2, a3, a4⟩ := open_intsC h0 z0
    obtain ⟨core, e1, _, wc⟩ := DataW.trod_int Tryd.underlying3 h1
    obtain ⟨q2, n2, c2, e2⟩ := slice_cell Tryd.underlying40 h2
    obtain ⟨q3, n3, c3, e3⟩ := slice_cell Tryd.underlying24 h3
    obtain ⟨qc, L, cc, e4, b1, b2, b3, b4⟩ := open_exprsC h4 z4
    obtain ⟨q5, n5, c5, e5⟩ := slice_cell Tryd.underlying24 h5
    obtain ⟨q6, n6, c6, e6⟩ := slice_cell Tryd.underlying24 h6
    obtain ⟨gr, e7, _⟩ := DataW.trod_bool Tryd.underlying4 h7
    obtain ⟨q8, n8, c8, e8⟩ := slice_cell Tryd.underlying24 h8
    obtain ⟨q9, n9, c9, e9⟩ := slice_cell Tryd.underlying41 h9
    obtain ⟨di, e10, _⟩ := DataW.trod_bool Tryd.underlying4 h10
    clear h0 h1 h2 h3 h4 h5 h6 h7 h8 h9 h10 hz hv ex
    simp [hS, hI, hJ, hB, Tryd.cellsInt] at e0 e1 e2 e3 e4 e5 e6 e7 e8 e9 e10
    subst e0 e1 e2 e3 e4 e5 e6 e7 e8 e9 e10
    exact ⟨⟨⟨qt, T.length, ct⟩, core, ⟨q2, n2, c2⟩, ⟨q3, n3, c3⟩, ⟨qc, L.length, cc⟩, ⟨q5, n5, c5⟩, ⟨q6, n6, c6⟩, gr, ⟨q8, n8, c8⟩, ⟨q9, n9, c9⟩, di⟩, T, L, rfl, ⟨rfl, ⟨a1, a2⟩, a3, rfl, ⟨b1, b2⟩, b3, b4⟩,
      by simpa [inR, Lit.wf, IntKind.min, IntKind.signed, IntKind.bits] using wc, a4⟩
end
open Go.ChangeShapes Go.WideShapes Go.ChangeAt Go.RowKit Go.Joins Go.Deep
set_option maxRecDepth 100000
section
variable {H : Type} {enc : TypeId × Value → H}
theorem bulk_pos : ∀ d : DataW H, 1 ≤ Rows.uptoBulk d
  | .lit (.string b) => by rw [Rows.uptoBulk]; omega
  | .lit (.int _ _) => by simp [Rows.uptoBulk]
  | .lit (.bool _) => by simp [Rows.uptoBulk]
  | .lit _ => by unfold Rows.uptoBulk; split <;> omega
  | .nil => by rw [Rows.uptoBulk]; omega
  | .ptr d => by rw [Rows.uptoBulk]; omega
  | .slice a b => by rw [Rows.uptoBulk]; omega
  | .agg a => by rw [Rows.uptoBulk]; omega
  | .iface _ d => by rw [Rows.uptoBulk]; omega
  | .map e => by rw [Rows.uptoBulk]; omega
  | .held _ => by rw [Rows.uptoBulk]; omega
theorem bulk_len : ∀ l : List (DataW H), l.length ≤ Rows.uptoBulkAll l
  | [] => Nat.zero_le _
  | d :: l => by
    have h1 := bulk_pos d
    have h2 := bulk_len l
    rw [Rows.uptoBulkAll, List.length_cons]
    omega
theorem bulk_mem : ∀ {l : List (DataW H)} {d : DataW H}, d ∈ l → Rows.uptoBulk d ≤ Rows.uptoBulkAll l
  | x :: l, d, h => by
    rw [Rows.uptoBulkAll]
    rcases List.mem_cons.1 h with rfl | h
    · omega
    · have := bulk_mem h
      omega
theorem block_few {W : World} {base : Nat} {spare : Nat → Bool} {held : Bool} {r : RawK} {d : DataW H} {p : List MemPlace} (h : DataW.Trod enc Tryd.prog W base spare held 43 (.agg r.cells.toArray) d p) : r.co.n ≤ Rows.uptoBulk d := by
  obtain ⟨fuel, hf⟩ := h
  have hf : DataW.trod enc Tryd.prog W base spare held fuel 43 r.cells = some (d, p) := by simpa [Value.cells] using hf
  obtain ⟨xs, n', -, ex, hl, hlen, hf⟩ := DataW.trod_struct Tryd.underlying43 hf
  match xs, hlen with
  | [y0, y1, y2, y3, y4, y5, y6, y7, y8, y9, y10], _ =>
    have h4 := hf 4 _ rfl
    clear hf
    simp only [List.getElem?_cons_zero, List.getElem?_cons_succ] at h4
    have hd : d = DataW.agg (List.map (fun x => x.1) [y0, y1, y2, y3, y4, y5, y6, y7, y8, y9, y10]) := congrArg Prod.fst ex
    have hb : Rows.uptoBulk y4.1 ≤ Rows.uptoBulk d := by
      rw [hd, Rows.uptoBulk]
      exact Nat.le_succ_of_le (bulk_mem (by simp))
    have hS : Tryd.prog.cellsOf 24 = 1 := by kernel_rfl
    refine Nat.le_trans ?_ hb
    rcases open_slice Tryd.underlying24 h4 with ⟨hc, _⟩ | ⟨a, len, cap, m, n2, D, Pl, hc, hb, hl2, hm, hmm, hx, hi⟩
    · have hc : List.take (Tryd.prog.cellsOf 24) (List.drop 4 r.cells) = [Value.slice none 0 0] := hc
      rw [hS] at hc
      have hc : [Value.slice r.co.q r.co.n r.co.c] = [Value.slice none 0 0] := hc
      simp at hc
      rw [hc.2.1]
      exact Nat.zero_le _
    · have hc : List.take (Tryd.prog.cellsOf 24) (List.drop 4 r.cells) = [Value.slice (some a) len cap] := hc
      rw [hS] at hc
      have hc : [Value.slice r.co.q r.co.n r.co.c] = [Value.slice (some a) len cap] := hc
      simp at hc
      rw [hc.2.1, hx]
      show len ≤ Rows.uptoBulk (DataW.slice ((List.range len).map D) ((List.range (m - len)).map fun j => D (len + j)))
      rw [Rows.uptoBulk]
      have := bulk_len ((List.range len).map D)
      rw [List.length_map, List.length_range] at this
      omega
end
open Go.RowKit Go.Maps Go.ChangeShapes Go.Deep Go.Shelf
set_option maxRecDepth 100000
def PrC (y : Ex) : Prop := ∀ (cs : List Value) (W : World), ExM W y cs → Calls Tryd.prog 9 #[.agg cs.toArray] W fun e W' => e = .returned (.string (bsB y.print)) ∧ Below W.heap.size W W'
theorem PrC.right {y : Ex} (h : rightE y = true) : PrC y := fun cs W hy => by
  obtain ⟨h1, h2, h3⟩ := right_iff8.1 h
  exact rprint_any _ _ (Nat.le_refl _) h1 h3 cs W hy
theorem PrC.wild {y : Ex} (h : y.inAll) (hp : y.print.length ≤ 1000000000000) : PrC y := fun cs W hy => rprint_wild _ _ (Nat.le_refl _) h hp cs W hy
theorem PrC.none : PrC exN := PrC.wild (by unfold exN; rw [Ex.inAll, inAllL]; exact ⟨⟨by decide, by decide, by decide, by decide⟩, trivial⟩) (by decide +kernel)
theorem PrC.normR (x : Ex) : PrC (normR x) := by
  cases h : rightE x
  · rw [show Go.Proofs.YtklgoajgchfmeaaDoor.normR x = exN by unfold Go.Proofs.YtklgoajgchfmeaaDoor.normR; rw [if_neg (by rw [h]; decide)]]
    exact PrC.none
  · rw [show Go.Proofs.YtklgoajgchfmeaaDoor.normR x = x.norm by unfold Go.Proofs.YtklgoajgchfmeaaDoor.normR; rw [if_pos h]]
    exact PrC.right (by rw [norm_right]; exact h)
abbrev notX (x : Ex) : Ex := .mk 17 zeroVal 0 0 0 ⟨#[]⟩ [x]
theorem notX_print (x : Ex) (h : x.inAll) (hp : x.print.length ≤ 100000000000) : PrC (notX x) := by
  refine PrC.wild ?_ ?_
  · rw [Ex.inAll, inAllL, inAllL]
    exact ⟨⟨by decide, by decide, by decide, by decide⟩, h, trivial⟩
  · rw [print_opW (by decide) (by decide) (by decide), printL, printL]
    have h1 : (Lib.itoa 17).length ≤ 21 := itoa_le (by decide)
    simp
    omega
theorem notX_in {W : World} {g : Nat} {x : Ex} {cs : List Value} (h : KB W g cs) (hx : ExM W x cs) : ExM W (notX x) (exCells 17 zeroVal 0 0 0 ⟨#[]⟩ (some ⟨g, 0, none⟩) 1 1) :=
  ExM.iff.2 ⟨⟨by decide, by decide, by decide⟩, _, 1, rfl, Nat.le_refl _, h.one hx⟩
set_option maxHeartbeats 8000000 in
theorem exprs_gen (L : List Ex) (qa qb : Option Addr) (ca cb : Nat) (w : World) (ha : ExL w qa 0 L) (hb : ExL w qb 0 L) (hr : ∀ y ∈ L, PrC y) (hn : L.length ≤ 1353245080340) :
    Calls Tryd.prog 14 #[.slice qa L.length ca, .slice qb L.length cb] w fun e w' => e = .returned (.bool true) ∧ Below w.heap.size w w' := by
  have HA := Lib.hid ha
  have HB := Lib.hid hb
  have HR := Lib.hid hr
  obtain ⟨n, hnn⟩ : ∃ n, n = L.length := ⟨_, rfl⟩
  have HN := Lib.hid hnn
  rw [← hnn] at hn ⊢
  clear hnn ha hb hr
  go_enter Tryd.func14, Tryd.ntmps14
  go_wp2_with fail
  go_loopw [5] (fun v5 wr => ∃ i : Nat, v5 = .int .i64 i ∧ i ≤ n ∧ Hid (Below w.heap.size w wr)) (fun v5 _ => ((n : Int) - intOf v5).toNat)
  case atStart => exact ⟨0, rfl, Nat.zero_le _, Below.refl _ _⟩
  case round =>
    obtain ⟨i, rfl, hi, HH⟩ := hrel
    obtain ⟨V, hV⟩ : ∃ V, V = wr := ⟨_, rfl⟩
    rw [← hV] at HH
    rw [← hV]
    clear hV
    by_cases hlt : i < n
    · obtain ⟨y, hy⟩ : ∃ y, L[i]? = some y := ⟨_, List.getElem?_eq_getElem (by rw [← HN.out]; exact hlt)⟩
      have hl_ := ExL.at_ (ExL.ext HH.out _ _ _ HA.out) hy
      obtain ⟨g0, off0, cs0, hq0, hg0, hx0, hcell⟩ := hl_
      subst hq0
      have hm_ := ExL.at_ (ExL.ext HH.out _ _ _ HB.out) hy
      obtain ⟨g1, off1, cs1, hq1, hg1, hx1, hcell1⟩ := hm_
      subst hq1
      have hPC := HR.out _ (List.mem_of_getElem? hy)
      have CA := Lib.hid (fun (W : World) (hb : Below V.heap.size V W) => hPC _ W (ExM.ext hb _ _ hx0))
      have CB := Lib.hid (fun (W : World) (hb : Below V.heap.size V W) => hPC _ W (ExM.ext hb _ _ hx1))
      obtain ⟨S, hS⟩ : ∃ S, S = bsB y.print := ⟨_, rfl⟩
      rw [← hS] at CA CB
      clear hy hPC hS
      obtain ⟨op1, v1, rel1, col1, n1, s1, l1⟩ := y
      rw [ExM.iff] at hx0 hx1
      obtain ⟨-, qq0, cc0, rfl, -, -⟩ := hx0
      obtain ⟨-, qq1, cc1, rfl, -, -⟩ := hx1
      have f0 := hcell 0 _ rfl
      have f1 := hcell 1 _ rfl
      have f2 := hcell 2 _ rfl
      have f3 := hcell 3 _ rfl
      have f4 := hcell 4 _ rfl
      have f5 := hcell 5 _ rfl
      have f6 := hcell 6 _ rfl
      have f7 := hcell 7 _ rfl
      have f8 := hcell 8 _ rfl
      simp only [Nat.zero_add, Nat.add_zero] at f0 f1 f2 f3 f4 f5 f6 f7 f8
      clear hcell
      obtain ⟨len, hlen⟩ : ∃ len, len = l1.length := ⟨_, rfl⟩
      rw [← hlen] at CA CB f8 hcell1
      clear hlen
      go_wp2_with fail
      refine (CA.out _ (Below.refl _ _)).mono ?_
      rintro e X ⟨rfl, hbX⟩
      have HX := Lib.hid hbX
      have hg1 : g1 < X.heap.size := Nat.lt_of_lt_of_le hg1 hbX.size
      have k := fun (j : Nat) u (hu : (exCells op1 v1 rel1 col1 n1 s1 qq1 len cc1)[j]? = some u) => (hbX.cell (p := ⟨g1, off1 + (0 + i) * 9 + j, none⟩) (by assumption)).trans (hcell1 j u hu)
      have k0 := k 0 _ rfl
      have k1 := k 1 _ rfl
      have k2 := k 2 _ rfl
      have k3 := k 3 _ rfl
      have k4 := k 4 _ rfl
      have k5 := k 5 _ rfl
      have k6 := k 6 _ rfl
      have k7 := k 7 _ rfl
      have k8 := k 8 _ rfl
      simp only [Nat.zero_add, Nat.add_zero] at k0 k1 k2 k3 k4 k5 k6 k7 k8
      clear k hcell1 f0 f1 f2 f3 f4 f5 f6 f7 f8 hbX
      go_wp2_with fail
      refine (CB.out _ HX.out).mono ?_
      rintro e Y ⟨rfl, hbY⟩
      have HY := Lib.hid (HH.out.trans ((HX.out.trans (hbY.mono HX.out.size)).mono HH.out.size))
      clear k0 k1 k2 k3 k4 k5 k6 k7 k8 hbY
      go_wp2_with fail
      go_roundw
      case rel => exact ⟨i + 1, by go_num, hlt, HY.out⟩
      case measure => simp [intOf] <;> omega
    · go_wp2_with fail
      refine bodyPost_ret (v := .bool true) (by simp [results, Tryd.results14, go_sem]) rfl ⟨rfl, HH.out⟩
set_option maxHeartbeats 8000000 in
theorem signNormals_any (x : Ex) (cs : List Value) (L : List Ex) (q : Option Addr) (c : Nat) (w : World) (hx : ExM w x cs) (hi : x.inAll) (hp : x.print.length ≤ 100000000000) (hL : ExL w q 0 L) (hlc : L.length ≤ c) (hcm : c ≤ 9223372036854775807) (hG : GE w) :
    Calls Tryd.prog 3 #[.agg cs.toArray, .slice q L.length c] w fun e w' => e = .returned (.bool true) ∧ Below w.heap.size w w' := by
  have HX := Lib.hid hx
  have HG := Lib.hid hG
  have HPN := Lib.hid (notX_print x hi hp)
  obtain ⟨n, hn⟩ : ∃ n, n = L.length := ⟨_, rfl⟩
  obtain ⟨m, hm⟩ : ∃ m : Nat, m = min n 40 := ⟨_, rfl⟩
  have HL := Lib.hid (hL.take m)
  have HKL := Lib.hid (show (L.take m).length = m by rw [List.length_take]; omega)
  have hmin : (min (n : Int) 40).toNat = m := by omega
  have hmn : m ≤ n := by omega
  have HM40 := Lib.hid (show m ≤ 40 by omega)
  rw [← hn] at hlc ⊢
  obtain ⟨K, hK⟩ : ∃ K, K = L.take m := ⟨_, rfl⟩
  rw [← hK] at HL HKL
  obtain ⟨op, v, rel, col, nn, s, l⟩ := x
  rw [ExM.iff] at hx
  obtain ⟨-, qe, ce, rfl, -, -⟩ := hx
  obtain ⟨X, hX⟩ : ∃ X, X = Ex.mk op v rel col nn s l := ⟨_, rfl⟩
  rw [← hX] at HX HPN
  obtain ⟨le, hle⟩ : ∃ k, k = l.length := ⟨_, rfl⟩
  rw [← hle] at HX ⊢
  clear hX hle hL hG hi hp hn hK
  obtain ⟨W, e0, K0, b0, -⟩ := new_block w (exCells op v rel col nn s qe le ce) 26 _ rfl
  have HE := Lib.hid e0
  have HB := Lib.hid b0
  have HK := Lib.hid K0
  clear e0 b0 K0
  go_enter Tryd.func3, Tryd.ntmps3
  go_upto_region 1 with fail
  change Code.wp _ _ _ _ (w.alloc (.cells (exCells op v rel col nn s qe le ce).toArray 26))
  rw [HE.out]
  clear HE
  obtain ⟨g, hg⟩ : ∃ g, g = w.heap.size := ⟨_, rfl⟩
  rw [← hg] at HK ⊢
  clear hg
  go_wp2_with fail
  refine (examples12_any W (HG.out.on HB.out)).mono ?_
  rintro e Y ⟨rfl, hy⟩
  have HY := Lib.hid (HB.out.trans (hy.mono HB.out.size))
  have HKY := Lib.hid (HK.out.on hy)
  clear hy HB HK
  go_upto_region 3 with fail
  rw [← hm]
  clear hm hmin hlc hmn hcm
  have lt := HKY.out.lt
  have c0 := HKY.out.c 0 _ rfl
  have c1 := HKY.out.c 1 _ rfl
  have c2 := HKY.out.c 2 _ rfl
  have c3 := HKY.out.c 3 _ rfl
  have c4 := HKY.out.c 4 _ rfl
  have c5 := HKY.out.c 5 _ rfl
  have c6 := HKY.out.c 6 _ rfl
  have c7 := HKY.out.c 7 _ rfl
  have c8 := HKY.out.c 8 _ rfl
  go_wp2_with fail
  obtain ⟨V1, e1, K1, b1, -⟩ := new_block Y (exCells op v rel col nn s qe le ce) 26 _ rfl
  refine calls_world (W' := V1) ?_ (by rw [← e1])
  have HV := Lib.hid (HY.out.trans (b1.mono HY.out.size))
  have HKY := Lib.hid (HKY.out.on b1)
  have NX := notX_in K1 (ExM.ext HV.out _ _ HX.out)
  obtain ⟨T, hT⟩ : ∃ T, T = bsB (notX X).print := ⟨_, rfl⟩
  have HPT := Lib.hid (show ∀ (cs : List Value) (W : World), ExM W (notX X) cs → Calls Tryd.prog 9 #[.agg cs.toArray] W fun e W' => e = .returned (.string T) ∧ Below W.heap.size W W' by rw [hT]; exact HPN.out)
  clear hT HPN e1 K1 b1 HY lt c0 c1 c2 c3 c4 c5 c6 c7 c8
  refine (HPT.out _ V1 NX).mono ?_
  rintro e Y2 ⟨rfl, hy2⟩
  have HY := Lib.hid (HV.out.trans (hy2.mono HV.out.size))
  have HKY := Lib.hid (HKY.out.on hy2)
  clear hy2 NX HV
  have lt := HKY.out.lt
  have c0 := HKY.out.c 0 _ rfl
  have c1 := HKY.out.c 1 _ rfl
  have c2 := HKY.out.c 2 _ rfl
  have c3 := HKY.out.c 3 _ rfl
  have c4 := HKY.out.c 4 _ rfl
  have c5 := HKY.out.c 5 _ rfl
  have c6 := HKY.out.c 6 _ rfl
  have c7 := HKY.out.c 7 _ rfl
  have c8 := HKY.out.c 8 _ rfl
  go_wp2_with fail
  refine (dnormal_any X _ Y2 (ExM.ext HY.out _ _ HX.out) (HG.out.on HY.out)).mono ?_
  rintro e Z ⟨⟨r, rfl, hr⟩, hz⟩
  have HZ := Lib.hid (HY.out.trans (hz.mono HY.out.size))
  have HRA := Lib.hid (ExMP.toM _ _ hr)
  have HKY := Lib.hid (HKY.out.on hz)
  obtain ⟨ER, hER⟩ : ∃ z, z = errR X := ⟨_, rfl⟩
  rw [← hER]
  have HER := Lib.hid hER
  obtain ⟨XN, hXN⟩ : ∃ z, z = normR X := ⟨_, rfl⟩
  rw [← hXN] at HRA
  have HXN := Lib.hid hXN
  clear hr hz hER hXN HY lt c0 c1 c2 c3 c4 c5 c6 c7 c8
  have lt := HKY.out.lt
  have c0 := HKY.out.c 0 _ rfl
  have c1 := HKY.out.c 1 _ rfl
  have c2 := HKY.out.c 2 _ rfl
  have c3 := HKY.out.c 3 _ rfl
  have c4 := HKY.out.c 4 _ rfl
  have c5 := HKY.out.c 5 _ rfl
  have c6 := HKY.out.c 6 _ rfl
  have c7 := HKY.out.c 7 _ rfl
  have c8 := HKY.out.c 8 _ rfl
  go_wp2_with fail
  obtain ⟨V2, e2, K2, b2, -⟩ := new_block Z r.cells 26 _ rfl
  refine calls_world (W' := V2) ?_ (by rw [← e2])
  have HV := Lib.hid (HZ.out.trans (b2.mono HZ.out.size))
  have HKY := Lib.hid (HKY.out.on b2)
  have HRA := Lib.hid (ExM.ext b2 _ _ HRA.out)
  have HKA := Lib.hid K2
  obtain ⟨ga, hga⟩ : ∃ g, g = Z.heap.size := ⟨_, rfl⟩
  rw [← hga] at HKA ⊢
  clear e2 K2 b2 hga HZ lt c0 c1 c2 c3 c4 c5 c6 c7 c8
  refine (rnormal_any X _ V2 (ExM.ext HV.out _ _ HX.out)).mono ?_
  rintro e U ⟨⟨r2, rfl, hr2⟩, hu⟩
  have HU := Lib.hid (HV.out.trans (hu.mono HV.out.size))
  have HRB := Lib.hid (ExMP.toM _ _ hr2)
  rw [← HXN.out] at HRB
  obtain ⟨RX, hRX⟩ : ∃ z, z = rightE X := ⟨_, rfl⟩
  rw [← hRX]
  have HRX := Lib.hid hRX
  have HKY := Lib.hid (HKY.out.on hu)
  have HRA := Lib.hid (ExM.ext hu _ _ HRA.out)
  have HKA := Lib.hid (HKA.out.on hu)
  clear hr2 hu HV hRX
  go_wp2_with fail
  obtain ⟨V3, e2, K2, b2, -⟩ := new_block U r2.cells 26 _ rfl
  refine calls_world (W' := V3) ?_ (by rw [← e2])
  have HV := Lib.hid (HU.out.trans (b2.mono HU.out.size))
  have HKY := Lib.hid (HKY.out.on b2)
  have HRA := Lib.hid (ExM.ext b2 _ _ HRA.out)
  have HRB := Lib.hid (ExM.ext b2 _ _ HRB.out)
  have HKA := Lib.hid (HKA.out.on b2)
  have HKB := Lib.hid K2
  obtain ⟨gb, hgb⟩ : ∃ g, g = U.heap.size := ⟨_, rfl⟩
  rw [← hgb] at HKB ⊢
  clear e2 K2 b2 hgb HU
  have HDC := Lib.hid (dconds_any K q c V3 (ExL.ext HV.out _ _ _ HL.out) (by rw [HKL.out]; have := HM40.out; omega) (HG.out.on HV.out))
  rw [HKL.out] at HDC
  refine HDC.out.mono ?_
  rintro e T1 ⟨⟨ql, cl, rfl, ho⟩, ht⟩
  have HT1 := Lib.hid (HV.out.trans (ht.mono HV.out.size))
  have HKY := Lib.hid (HKY.out.on ht)
  have HRA := Lib.hid (ExM.ext ht _ _ HRA.out)
  have HRB := Lib.hid (ExM.ext ht _ _ HRB.out)
  have HKA := Lib.hid (HKA.out.on ht)
  have HKB := Lib.hid (HKB.out.on ht)
  obtain ⟨C, hC⟩ : ∃ C, C = condsE K := ⟨_, rfl⟩
  rw [← hC] at ho ⊢
  obtain ⟨EC, hEC⟩ : ∃ e, e = errC K := ⟨_, rfl⟩
  rw [← hEC]
  have HEC := Lib.hid hEC
  obtain ⟨k, hk⟩ : ∃ k, k = C.length := ⟨_, rfl⟩
  have HKC := Lib.hid hk
  rw [← hk] at ho ⊢
  obtain ⟨qv, cv, hv1, -, -, hx1⟩ := ho.toL
  obtain ⟨rfl, -, rfl⟩ : ql = qv ∧ k = C.length ∧ cl = cv := by simpa using hv1
  have HCL := Lib.hid hx1
  have HC := Lib.hid hC
  clear hC hEC hk hv1 hx1 ho ht HV HDC
  have HDC := Lib.hid (rconds_any K q c T1 (ExL.ext HT1.out _ _ _ HL.out) (by rw [HKL.out]; have := HM40.out; omega))
  rw [HKL.out] at HDC
  go_wp2_with fail
  refine HDC.out.mono ?_
  rintro e T2 ⟨⟨v2, rfl, ho⟩, ht⟩
  have HT2 := Lib.hid (HT1.out.trans (ht.mono HT1.out.size))
  have HKY := Lib.hid (HKY.out.on ht)
  have HRA := Lib.hid (ExM.ext ht _ _ HRA.out)
  have HRB := Lib.hid (ExM.ext ht _ _ HRB.out)
  have HKA := Lib.hid (HKA.out.on ht)
  have HKB := Lib.hid (HKB.out.on ht)
  have HCL := Lib.hid (ExL.ext ht _ _ _ HCL.out)
  rw [← HC.out] at ho
  obtain ⟨q2, c2, rfl, -, -, hx2⟩ := ho.toL
  rw [← HKC.out]
  have HDL := Lib.hid hx2
  obtain ⟨BA, hBA⟩ : ∃ z, z = K.all rightE := ⟨_, rfl⟩
  rw [← hBA]
  have HBA := Lib.hid hBA
  clear ho hx2 ht HT1 HDC hBA
  have ltA := HKA.out.lt
  have a0 := HKA.out.c 0 _ rfl
  have a1 := HKA.out.c 1 _ rfl
  have a2 := HKA.out.c 2 _ rfl
  have a3 := HKA.out.c 3 _ rfl
  have a4 := HKA.out.c 4 _ rfl
  have a5 := HKA.out.c 5 _ rfl
  have a6 := HKA.out.c 6 _ rfl
  have a7 := HKA.out.c 7 _ rfl
  have a8 := HKA.out.c 8 _ rfl
  have ltB := HKB.out.lt
  have d0 := HKB.out.c 0 _ rfl
  have d1 := HKB.out.c 1 _ rfl
  have d2 := HKB.out.c 2 _ rfl
  have d3 := HKB.out.c 3 _ rfl
  have d4 := HKB.out.c 4 _ rfl
  have d5 := HKB.out.c 5 _ rfl
  have d6 := HKB.out.c 6 _ rfl
  have d7 := HKB.out.c 7 _ rfl
  have d8 := HKB.out.c 8 _ rfl
  go_wp2_with fail
  clear ltA ltB a0 a1 a2 a3 a4 a5 a6 a7 a8 d0 d1 d2 d3 d4 d5 d6 d7 d8 HKA HKB
  obtain ⟨V4, e3, K3, b3, s3⟩ := new_block T2 r.cells 26 _ rfl
  obtain ⟨V5, e4, K4, b4, -⟩ := new_block V4 r2.cells 26 _ s3
  refine calls_world (W' := V5) ?_ (by rw [← e4, ← e3])
  have b5 := b3.trans (b4.mono b3.size)
  have HV5 := Lib.hid (HT2.out.trans (b5.mono HT2.out.size))
  have HKY := Lib.hid (HKY.out.on b5)
  have HRA := Lib.hid (ExM.ext b5 _ _ HRA.out)
  have HRB := Lib.hid (ExM.ext b5 _ _ HRB.out)
  have HCL := Lib.hid (ExL.ext b5 _ _ _ HCL.out)
  have HDL := Lib.hid (ExL.ext b5 _ _ _ HDL.out)
  have O1 := (K3.on b4).one HRA.out
  have O2 := K4.one HRB.out
  clear K3 K4 e3 e4 s3 b3 b4 b5 HRA HRB HT2
  refine (exprs_gen [XN] _ _ 1 1 V5 O1 O2 (fun y hy => by rw [List.mem_singleton.1 hy, HXN.out]; exact PrC.normR X) (by simp)).mono ?_
  rintro e V6 ⟨rfl, h6⟩
  have HV6 := Lib.hid (HV5.out.trans (h6.mono HV5.out.size))
  have HKY := Lib.hid (HKY.out.on h6)
  have HCL := Lib.hid (ExL.ext h6 _ _ _ HCL.out)
  have HDL := Lib.hid (ExL.ext h6 _ _ _ HDL.out)
  clear O1 O2 h6 HV5
  have HEX := Lib.hid (exprs_gen C _ _ cl c2 V6 HCL.out HDL.out (fun y hy => by rw [HC.out] at hy; exact PrC.right (List.all_eq_true.1 (conds_again K).2.1 y hy)) (by have := (conds_again K).2.2; rw [← HC.out, HKL.out] at this; have := HM40.out; omega))
  rw [← HKC.out] at HEX
  go_wp2_with fail
  refine HEX.out.mono ?_
  rintro e V7 ⟨rfl, h7⟩
  have HV7 := Lib.hid (HV6.out.trans (h7.mono HV6.out.size))
  have HKY := Lib.hid (HKY.out.on h7)
  clear h7 HV6 HEX HCL HDL
  have lt := HKY.out.lt
  have c0 := HKY.out.c 0 _ rfl
  have c1 := HKY.out.c 1 _ rfl
  have c2 := HKY.out.c 2 _ rfl
  have c3 := HKY.out.c 3 _ rfl
  have c4 := HKY.out.c 4 _ rfl
  have c5 := HKY.out.c 5 _ rfl
  have c6 := HKY.out.c 6 _ rfl
  have c7 := HKY.out.c 7 _ rfl
  have c8 := HKY.out.c 8 _ rfl
  go_wp2_with fail
  obtain ⟨V8, e1, K1, b1, -⟩ := new_block V7 (exCells op v rel col nn s qe le ce) 26 _ rfl
  refine calls_world (W' := V8) ?_ (by rw [← e1])
  have HV8 := Lib.hid (HV7.out.trans (b1.mono HV7.out.size))
  have NX := notX_in K1 (ExM.ext HV8.out _ _ HX.out)
  clear e1 K1 b1 HV7 HKY lt c0 c1 c2 c3 c4 c5 c6 c7 c8
  refine (HPT.out _ V8 NX).mono ?_
  rintro e V9 ⟨rfl, h9⟩
  have HV9 := Lib.hid (HV8.out.trans (h9.mono HV8.out.size))
  clear h9 NX HV8
  have her : ER = if RX = true then 0 else 1 := by rw [HER.out, HRX.out]; rfl
  have hec : EC = if BA = true then 0 else 1 := by rw [HEC.out, HBA.out]; rfl
  clear HER HRX HEC HBA
  cases RX <;> cases BA
  all_goals
    simp only [if_true, Bool.false_eq_true, if_false] at her hec
    subst her hec
    go_wp2_with fail
    refine bodyPost_ret (v := .bool true) (by simp [results, Tryd.results3, go_sem]) rfl ⟨rfl, HV9.out⟩
end Go.Proofs.YtklgoajgchfmeaaDoor
