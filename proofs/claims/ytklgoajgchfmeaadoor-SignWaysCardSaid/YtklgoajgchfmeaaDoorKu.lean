/- A part of the proof. -/
import Derived.Test.YtklgoajgchfmeaaDoorKb
import Derived.Test.YtklgoajgchfmeaaDoorKh
import Derived.Test.YtklgoajgchfmeaaDoorKn
import Derived.Test.YtklgoajgchfmeaaDoorCards
import Derived.Test.YtklgoajgchfmeaaDoorTie
import Derived.Lay
import Derived.LaidMore
import Derived.OpenShut
import Derived.SevenTiedAt
import Derived.Stop.Joined
import Derived.SizedLaws
set_option linter.unusedVariables false
set_option linter.unusedSimpArgs false
namespace Go.Proofs.YtklgoajgchfmeaaDoor
open Go.ChangeShapes Go.WideShapes Go.ChangeAt Go.RowKit Go.Joins Go.Deep
set_option maxRecDepth 100000
theorem ExL.of {w : World} {q : Option Addr} : ∀ {l : List Ex} {i : Nat}, (∀ (j : Nat) (x : Ex), l[j]? = some x → ∃ g off cs, q = some ⟨g, off, none⟩ ∧ g < w.heap.size ∧ ExM w x cs ∧ ∀ (k : Nat) u, cs[k]? = some u → w.cell? ⟨g, off + (i + j) * 9 + k, none⟩ = some u) → ExL w q i l
  | [], i, _ => by rw [ExL]; trivial
  | x :: r, i, h => by
    rw [ExL]
    refine ⟨?_, ExL.of fun j y hy => ?_⟩
    · obtain ⟨g, off, cs, h1, h2, h3, h4⟩ := h 0 x rfl
      exact ⟨g, off, cs, h1, h2, h3, fun k u hu => h4 k u hu⟩
    · obtain ⟨g, off, cs, h1, h2, h3, h4⟩ := h (j + 1) y (by simpa using hy)
      refine ⟨g, off, cs, h1, h2, h3, fun k u hu => ?_⟩
      rw [show i + 1 + j = i + (j + 1) by omega]
      exact h4 k u hu
instance : Inhabited Ex := ⟨.mk 0 zeroVal 0 0 0 ⟨#[]⟩ []⟩
theorem Tryd.cellsExpr : Tryd.prog.cellsOf 26 = 9 := by kernel_rfl
section
variable {H : Type} {enc : TypeId × Value → H}
theorem size_in {l m : List (DataW H)} {d : DataW H} (h : d ∈ l) : SizeOf.sizeOf d < SizeOf.sizeOf (DataW.slice l m) := by
  have := List.sizeOf_lt_of_mem h
  simp only [DataW.slice.sizeOf_spec]
  omega
theorem size_agg {l : List (DataW H)} {d : DataW H} (h : d ∈ l) : SizeOf.sizeOf d < SizeOf.sizeOf (DataW.agg l) := by
  have := List.sizeOf_lt_of_mem h
  simp only [DataW.agg.sizeOf_spec]
  omega
theorem open_expr : ∀ (N : Nat) {W : World} {base n : Nat} {spare : Nat → Bool} {held : Bool} {cs : List Value} {y : DataW H × List MemPlace}, SizeOf.sizeOf y.1 < N → DataW.trod enc Tryd.prog W base spare held n 26 cs = some y → ∃ x : Ex, ExM W x cs ∧ cs.length = 9
  | 0, _, _, _, _, _, _, _, h, _ => absurd h (by omega)
  | N + 1, W, base, n, spare, held, cs, y, hN, h => by
    obtain ⟨xs, n', _, rfl, hl, hlen, hf⟩ := DataW.trod_struct Tryd.underlying26 h
    rw [Tryd.cellsExpr] at hl
    match xs, hlen, cs, hl with
    | [y0, y1, y2, y3, y4, y5, y6], _, [v0, v1, v2, v3, v4, v5, v6, v7, v8], _ =>
      have h0 := hf 0 _ rfl
      have h1 := hf 1 _ rfl
      have h2 := hf 2 _ rfl
      have h3 := hf 3 _ rfl
      have h4 := hf 4 _ rfl
      have h5 := hf 5 _ rfl
      have h6 := hf 6 _ rfl
      clear hf h
      simp only [List.getElem?_cons_zero, List.getElem?_cons_succ] at h0 h1 h2 h3 h4 h5 h6
      obtain ⟨op, e0, _, _⟩ := DataW.trod_int Tryd.underlying3 h0
      obtain ⟨v, e1, r1, r2, r3⟩ := cells_val h1
      obtain ⟨rel, e2, _, _⟩ := DataW.trod_int Tryd.underlying3 h2
      obtain ⟨col, e3, _, _⟩ := DataW.trod_int Tryd.underlying3 h3
      obtain ⟨nn, e4, _, _⟩ := DataW.trod_int Tryd.underlying3 h4
      obtain ⟨s, e5, _, _⟩ := DataW.trod_string Tryd.underlying9 h5
      have hN6 : SizeOf.sizeOf y6.1 < N := by
        have h := size_agg (H := H) (l := [y0, y1, y2, y3, y4, y5, y6].map (·.1)) (d := y6.1) (by simp)
        have hN' : SizeOf.sizeOf (DataW.agg ([y0, y1, y2, y3, y4, y5, y6].map (·.1))) < N + 1 := hN
        omega
      clear hN
      simp [Tryd.cellsInt, Tryd.cellsStr, Tryd.cellsVal] at e0 e1 e2 e3 e4 e5
      obtain ⟨rfl, rfl, rfl⟩ := e1
      subst e0 e2 e3 e4 e5
      have hS : Tryd.prog.cellsOf 24 = 1 := by kernel_rfl
      rcases open_slice Tryd.underlying24 h6 with ⟨hc, _⟩ | ⟨a, len, cap, m, n2, D, Pl, hc, hb, hl2, hm, hmm, hx, hi⟩
      · simp [hS] at hc
        subst hc
        exact ⟨.mk op v rel col nn s [], ExM.iff.2 ⟨⟨r1, r2, r3⟩, none, 0, rfl, Nat.le_refl _, by rw [ExL]; trivial⟩, rfl⟩
      · simp [hS] at hc
        subst hc
        have hlm : len ≤ m := by rw [hmm]; split <;> omega
        rw [Tryd.cellsExpr] at hi
        have each : ∀ i, i < len → ∃ x : Ex, ∃ cs', (∀ k, k < 9 → W.cell? (a.add (i * 9 + k)) = cs'[k]?) ∧ cs'.length = 9 ∧ ExM W x cs' := by
          intro i hil
          obtain ⟨cs', hcs, htr⟩ := hi i (by omega)
          obtain ⟨_, hlen, hat⟩ := World.cells?_some hcs
          obtain ⟨x, hx2, _⟩ := open_expr N (y := (D i, Pl i)) (by
            have h := size_in (H := H) (l := (List.range len).map D) (m := (List.range (m - len)).map fun j => D (len + j)) (d := D i) (List.mem_map.2 ⟨i, List.mem_range.2 hil, rfl⟩)
            rw [hx] at hN6
            have hN7 : SizeOf.sizeOf (DataW.slice ((List.range len).map D) ((List.range (m - len)).map fun j => D (len + j))) < N := hN6
            show SizeOf.sizeOf (D i) < N
            omega) htr
          exact ⟨x, cs', fun k hk => by have h1 := hat k hk; rw [add_add] at h1; exact h1, hlen, hx2⟩
        have haddr : 0 < len → a = ⟨a.block, a.off, none⟩ ∧ a.block < W.heap.size := by
          intro hl0
          obtain ⟨_, cs', hk, hlen, _⟩ := each 0 hl0
          have h1 := hk 0 (by omega)
          rw [Nat.zero_mul, Nat.zero_add, Addr.add, if_pos rfl, List.getElem?_eq_getElem (by omega)] at h1
          exact addr_here h1
        obtain ⟨T, hT⟩ := choose_lt each
        have hlen : ((List.range len).map T).length = len := by simp
        refine ⟨.mk op v rel col nn s ((List.range len).map T), ExM.iff.2 ⟨⟨r1, r2, r3⟩, some a, cap, by rw [hlen], by rw [hlen]; exact hl2, ExL.of fun j x hx => ?_⟩, rfl⟩
        have hj : j < len := by
          rcases Nat.lt_or_ge j len with h | h
          · exact h
          · rw [List.getElem?_eq_none (by rw [hlen]; exact h)] at hx; cases hx
        have hTx : T j = x := by simpa [hj] using hx
        obtain ⟨cs', hk, hl9, hx9⟩ := hT j hj
        rw [hTx] at hx9
        obtain ⟨ha, hlt⟩ := haddr (by omega)
        refine ⟨a.block, a.off, cs', by rw [← ha], hlt, hx9, fun k u hu => ?_⟩
        have hk9 : k < 9 := by
          rcases Nat.lt_or_ge k 9 with h | h
          · exact h
          · rw [List.getElem?_eq_none (by omega)] at hu; cases hu
        have h1 := hk k hk9
        rw [hu, ha, addr_off] at h1
        rw [Nat.zero_add, Nat.add_assoc]
        exact h1
end
open Go.ChangeShapes Go.WideShapes Go.ChangeAt Go.RowKit Go.Joins Go.Deep
set_option maxRecDepth 100000
section
variable {H : Type} {enc : TypeId × Value → H}
end
open Go.ChangeShapes Go.WideShapes Go.ChangeAt Go.RowKit Go.Joins Go.Deep
set_option maxRecDepth 100000
section
variable {H : Type} {enc : TypeId × Value → H}
theorem Tryd.bytesExpr : Tryd.prog.bytesOf 26 = 104 := by kernel_rfl
def exprC (W : World) : Nat → Nat → Ex → Prop := fun g o x => ∃ cs, ExM W x cs ∧ ∀ (k : Nat) u, cs[k]? = some u → W.cell? ⟨g, o + k, none⟩ = some u
theorem exprs_in {W : World} {q : Option Addr} {l : List Ex} (h : ArrA 0 W.heap.size q 9 l (exprC W)) : ExL W q 0 l := ExL.of fun j x hx => by
  have hj : j < l.length := (List.getElem?_eq_some_iff.1 hx).1
  obtain ⟨g, off, h1, -, h3, h4⟩ := h 0 (by omega)
  obtain ⟨cs, h5, h6⟩ := h4 j x hx
  exact ⟨g, off, cs, h1, h3, h5, fun k u hu => by rw [Nat.zero_add]; exact h6 k u hu⟩
theorem open_exprsC {W : World} {base fuel : Nat} {spare : Nat → Bool} {held : Bool} {cs : List Value} {y : DataW H × List MemPlace} (hf : DataW.trod enc Tryd.prog W base spare held fuel 24 cs = some y) (hz : ∀ n ∈ y.1.weights Tryd.prog 24, n ≤ reachBytes) :
    ∃ (q : Option Addr) (l : List Ex) (c : Nat), cs = [.slice q l.length c] ∧ l.length ≤ c ∧ c ≤ 9223372036854775807 ∧ ExL W q 0 l ∧ l.length * 104 ≤ 140737488355328 := by
  obtain ⟨q, l, c, h1, h2, h3, h4, h5, _⟩ := open_arr Tryd.underlying24 Tryd.cellsExpr (by omega) (exprC W) (fun _ => True) hf hz (fun cs y n htr _ g o hk => by
    obtain ⟨x, hx, hl⟩ := open_expr _ (Nat.lt_succ_self _) htr
    exact ⟨x, ⟨cs, hx, fun k u hu => hk k u (by rw [← hl]; exact (List.getElem?_eq_some_iff.1 hu).1) hu⟩, trivial⟩)
  rw [Tryd.bytesExpr] at h4
  exact ⟨q, l, c, h1, h2, h3, exprs_in h5, Nat.le_trans h4 (by decide)⟩
theorem slice_cell {t e : TypeId} (ht : Tryd.prog.underlying t = some (.slice e)) {W : World} {base fuel : Nat} {spare : Nat → Bool} {held : Bool} {cs : List Value} {y : DataW H × List MemPlace} (hf : DataW.trod enc Tryd.prog W base spare held fuel t cs = some y) : ∃ q n c, cs = [.slice q n c] := by
  rcases open_slice ht hf with ⟨hc, _⟩ | ⟨a, len, cap, m, n, D, Pl, hc, _⟩
  · exact ⟨_, _, _, hc⟩
  · exact ⟨_, _, _, hc⟩
theorem open_intsC {W : World} {base fuel : Nat} {spare : Nat → Bool} {held : Bool} {cs : List Value} {y : DataW H × List MemPlace} (hf : DataW.trod enc Tryd.prog W base spare held fuel 40 cs = some y) (hz : ∀ n ∈ y.1.weights Tryd.prog 40, n ≤ reachBytes) :
    ∃ (q : Option Addr) (l : List Int) (c : Nat), cs = [.slice q l.length c] ∧ l.length ≤ c ∧ c ≤ 9223372036854775807 ∧ IntsA W 0 W.heap.size q l ∧ ∀ z ∈ l, inR z = true := by
  obtain ⟨q, l, c, h1, h2, h3, h4, h5, h6⟩ := open_arr Tryd.underlying40 Tryd.cellsInt (by omega) (intC W) (fun z => inR z = true) hf hz (fun cs y n htr _ g o hk => by
    obtain ⟨a, rfl, _, wa⟩ := DataW.trod_int Tryd.underlying3 htr
    exact ⟨a, hk 0 _ (by omega) rfl, by simpa [inR, Lit.wf, IntKind.min, IntKind.signed, IntKind.bits] using wa⟩)
  exact ⟨q, l, c, h1, h2, h3, h5, h6⟩
theorem open_block {W : World} {spare : Nat → Bool} {held : Bool} {rr : Reach} {b0 base : Nat} {v : Value} {d : DataW H} {p : List MemPlace} (hv : Value.okWide Tryd.prog W rr b0 43 v) (h : DataW.Trod enc Tryd.prog W base spare held 43 v d p) (hz : ∀ n ∈ d.weights Tryd.prog 43, n ≤ reachBytes) :
    ∃ (r : RawK) (tabs : List Int) (L : List Ex), v = .agg r.cells.toArray ∧ BlkIn W r tabs L ∧ inR r.core = true ∧ ∀ t ∈ tabs, inR t = true := by
  obtain ⟨ca, rfl, _⟩ := okWide_struct Tryd.underlying43 hv
  obtain ⟨cs, rfl⟩ : ∃ l : List Value, ca = l.toArray := ⟨ca.toList, by simp⟩
  obtain ⟨fuel, hf⟩ := h
  have hf : DataW.trod enc Tryd.prog W base spare held fuel 43 cs = some (d, p) := by simpa [Value.cells] using hf
  obtain ⟨xs, n', -, ex, hl, hlen, hf⟩ := DataW.trod_struct Tryd.underlying43 hf
  rw [show Tryd.prog.cellsOf 43 = 11 by kernel_rfl] at hl
  match xs, hlen, cs, hl with
  | [y0, y1, y2, y3, y4, y5, y6, y7, y8, y9, y10], _, [u0, u1, u2, u3, u4, u5, u6, u7, u8, u9, u10], _ =>
    have h0 := hf 0 _ rfl
    have h1 := hf 1 _ rfl
    have h2 := hf 2 _ rfl
    have h3 := hf 3 _ rfl
    have h4 := hf 4 _ rfl
    have h5 := hf 5 _ rfl
    have h6 := hf 6 _ rfl
    have h7 := hf 7 _ rfl
    have h8 := hf 8 _ rfl
    have h9 := hf 9 _ rfl
    have h10 := hf 10 _ rfl
    clear hf
    simp only [List.getElem?_cons_zero, List.getElem?_cons_succ] at h0 h1 h2 h3 h4 h5 h6 h7 h8 h9 h10
    have hd : d = DataW.agg (List.map (fun x => x.1) [y0, y1, y2, y3, y4, y5, y6, y7, y8, y9, y10]) := congrArg Prod.fst ex
    subst hd
    have z0 : ∀ n ∈ y0.1.weights Tryd.prog 40, n ≤ reachBytes := fun n hn => hz n (by
      simp only [DataW.weights, Tryd.underlying43]
      exact DataW.weights_mem_each (j := 0) (t := 40) rfl rfl n hn)
    have z4 : ∀ n ∈ y4.1.weights Tryd.prog 24, n ≤ reachBytes := fun n hn => hz n (by
      simp only [DataW.weights, Tryd.underlying43]
      exact DataW.weights_mem_each (j := 4) (t := 24) rfl rfl n hn)
    have hS : Tryd.prog.cellsOf 24 = 1 := by kernel_rfl
    have hI : Tryd.prog.cellsOf 40 = 1 := by kernel_rfl
    have hJ : Tryd.prog.cellsOf 41 = 1 := by kernel_rfl
    have hB : Tryd.prog.cellsOf 4 = 1 := by kernel_rfl
    obtain ⟨qt, T, ct, e0, a1, a2, a3, a4⟩ := open_intsC h0 z0
    obtain ⟨core, e1, _, wc⟩ := DataW.trod_int Tryd.underlying3 h1
    obtain ⟨q2, n2, c2, e2⟩ := slice_cell Tryd.underlying40 h2
    obtain ⟨q3, n3, c3, e3⟩ := slice_cell Tryd.underlying24 h3
    obtain ⟨qc, L, cc, e4, b1, b2, b3, b4⟩ := open_exprsC h4 z4
    obtain ⟨q5, n5, c5, e5⟩ := slice_cell Tryd.underlying24 h5
    obtain ⟨q6, n6, c6, e6⟩ := slice_cell Tryd.underlying24 h6
    obtain ⟨gr, e7, _⟩ := DataW.trod_bool Tryd.underlying4 h7
    obtain ⟨q8, n8, c8, e8⟩ := slice_cell Tryd.underlying24 h8
    obtain ⟨q9, n9, c9, e9⟩ := slice_cell Tryd.underlying41 h9
    obtain ⟨di, e10, _⟩ := DataW.trod_bool Tryd.underlying4 h10
    clear h0 h1 h2 h3 h4 h5 h6 h7 h8 h9 h10 hz hv ex
    simp [hS, hI, hJ, hB, Tryd.cellsInt] at e0 e1 e2 e3 e4 e5 e6 e7 e8 e9 e10
    subst e0 e1 e2 e3 e4 e5 e6 e7 e8 e9 e10
    exact ⟨⟨⟨qt, T.length, ct⟩, core, ⟨q2, n2, c2⟩, ⟨q3, n3, c3⟩, ⟨qc, L.length, cc⟩, ⟨q5, n5, c5⟩, ⟨q6, n6, c6⟩, gr, ⟨q8, n8, c8⟩, ⟨q9, n9, c9⟩, di⟩, T, L, rfl, ⟨rfl, ⟨a1, a2⟩, a3, rfl, ⟨b1, b2⟩, b3, b4⟩,
      by simpa [inR, Lit.wf, IntKind.min, IntKind.signed, IntKind.bits] using wc, a4⟩
end
open Go.ChangeShapes Go.WideShapes Go.ChangeAt Go.RowKit Go.Joins
set_option maxRecDepth 100000
noncomputable abbrev laidVars : List (String × DataW Unit) := Rows.signTellsRow.laid
theorem wit_shaped (os : Os) (args : Array Value) : ((World.laidAll Tryd.prog os laidVars).forCall (fun _ _ => 0) ⟨#[], args, []⟩).Shaped Tryd.prog := World.shaped_of_ZipB (by kernel_rfl) (by kernel_rfl)
theorem wit_met (os : Os) (args : Array Value) : laidMetH Tryd.prog laidVars ((World.laidAll Tryd.prog os laidVars).forCall (fun _ _ => 0) ⟨#[], args, []⟩).memory := by
  rw [MakeChecks.laidMetH_plain _ _ _ (by kernel_rfl)]
  exact laidMet_laidAll _ (by kernel_rfl) (by kernel_rfl)
theorem var_lt {W : World} {n : String} {d : DataW Unit} {g : Nat} (h : Lib.VarReads Tryd.prog W n d) (hg : Tryd.prog.globalNamed n = some g) : g < W.heap.size := by
  obtain ⟨g', t, cs, fuel, p, hg', ht, hv, hd⟩ := h
  obtain rfl := Option.some.inj (hg.symm.trans hg')
  unfold World.var? at hv
  simp only [hg, Option.bind_some] at hv
  rcases Nat.lt_or_ge g W.heap.size with h | h
  · exact h
  · simp [Array.getElem?_eq_none h] at hv
theorem GE.of_laid {W : World} (hL : laidMetH Tryd.prog laidVars W) : GE W := by
  rw [MakeChecks.laidMetH_plain _ _ _ (by kernel_rfl)] at hL
  have h1 : Lib.VarReads Tryd.prog W "math/bits.deBruijn64tab" Rows.laid_math_bits_deBruijn64tab := Lib.laidMet.reads hL (List.mem_of_getElem? (i := 1) rfl)
  have hlt := var_lt h1 (g := 3) (by kernel_rfl)
  exact GE.of_reads (by omega) (Lib.laidMet.reads hL (List.mem_of_getElem? (i := 3) rfl)) (Lib.laidMet.reads hL (List.mem_of_getElem? (i := 2) rfl))
end Go.Proofs.YtklgoajgchfmeaaDoor
