/- A part of the proof. -/
import Derived.Test.YtklgoajgchfmeaaDoorKc
import Derived.Test.YtklgoajgchfmeaaDoorKl
import Derived.Test.YtklgoajgchfmeaaDoorKh
import Derived.Deep.RegionHeld3
import Derived.Deep.RegionWith
set_option linter.unusedVariables false
set_option linter.unusedSimpArgs false
namespace Go.Proofs.YtklgoajgchfmeaaDoor
open Go.RowKit Go.Deep
set_option maxRecDepth 100000
theorem ex_len9 {w : World} {x : Ex} {cs : List Value} (h : ExM w x cs) : cs.length = 9 := by
  obtain ⟨op, v, rel, col, n, s, l⟩ := x
  rw [ExM.iff] at h
  obtain ⟨-, q, c, rfl, -, -⟩ := h
  rfl
structure RawE where
  op : Int
  v : Val
  rel : Int
  col : Int
  n : Int
  s : ByteArray
  q : Option Addr
  len : Nat
  c : Nat
abbrev RawE.cells (r : RawE) : List Value := exCells r.op r.v r.rel r.col r.n r.s r.q r.len r.c
theorem RawE.cells_len (r : RawE) : r.cells.length = 9 := rfl
theorem RawE.cells_one (r : RawE) (u : Value) (h : u ∈ r.cells) : u.oneCell' = true := by
  simp only [RawE.cells, exCells, List.mem_cons, List.not_mem_nil, or_false] at h
  rcases h with rfl | rfl | rfl | rfl | rfl | rfl | rfl | rfl | rfl <;> rfl
theorem RawE.inj {r r' : RawE} (h : r.cells = r'.cells) : r = r' := by
  obtain ⟨op, ⟨vk, vn, vs⟩, rel, col, n, s, q, len, c⟩ := r
  obtain ⟨op', ⟨vk', vn', vs'⟩, rel', col', n', s', q', len', c'⟩ := r'
  simp [RawE.cells, exCells] at h
  obtain ⟨rfl, rfl, rfl, rfl, rfl, rfl, rfl, rfl, rfl, rfl, rfl⟩ := h
  rfl
def rawZ : RawE := ⟨0, zeroVal, 0, 0, 0, ⟨#[]⟩, none, 0, 0⟩
instance : Inhabited RawE := ⟨rawZ⟩
mutual
def ExMP (w : World) (P : Nat → Prop) : Ex → List Value → Prop
  | .mk op v rel col n s l, cs => okVal v ∧ ∃ q c, cs = exCells op v rel col n s q l.length c ∧ l.length ≤ c ∧ ExLP w P q 0 l
def ExLP (w : World) (P : Nat → Prop) (q : Option Addr) : Nat → List Ex → Prop
  | _, [] => True
  | i, x :: r => (∃ g off cs, q = some ⟨g, off, none⟩ ∧ g < w.heap.size ∧ P g ∧ ExMP w P x cs ∧ ∀ (k : Nat) u, cs[k]? = some u → w.cell? ⟨g, off + i * 9 + k, none⟩ = some u) ∧ ExLP w P q (i + 1) r
end
theorem ExMP.iff {w : World} {P : Nat → Prop} {op : Int} {v : Val} {rel col n : Int} {s : ByteArray} {l : List Ex} {cs : List Value} : ExMP w P (.mk op v rel col n s l) cs ↔ okVal v ∧ ∃ q c, cs = exCells op v rel col n s q l.length c ∧ l.length ≤ c ∧ ExLP w P q 0 l := by rw [ExMP]
mutual
theorem ExMP.toM {w : World} {P : Nat → Prop} : ∀ (x : Ex) (cs : List Value), ExMP w P x cs → ExM w x cs
  | .mk op v rel col n s l, cs, h => by
    rw [ExMP] at h
    rw [ExM]
    obtain ⟨hv, q, c, e, hc, hl⟩ := h
    exact ⟨hv, q, c, e, hc, ExLP.toL l q 0 hl⟩
theorem ExLP.toL {w : World} {P : Nat → Prop} : ∀ (l : List Ex) (q : Option Addr) (i : Nat), ExLP w P q i l → ExL w q i l
  | [], q, i, _ => by rw [ExL]; trivial
  | x :: r, q, i, h => by
    rw [ExLP] at h
    rw [ExL]
    obtain ⟨⟨g, off, cs, e, hg, _, hx, hcell⟩, hr⟩ := h
    exact ⟨⟨g, off, cs, e, hg, ExMP.toM x cs hx, hcell⟩, ExLP.toL r q (i + 1) hr⟩
end
mutual
theorem ExM.toP {w : World} : ∀ (x : Ex) (cs : List Value), ExM w x cs → ExMP w (fun g => g < w.heap.size) x cs
  | .mk op v rel col n s l, cs, h => by
    rw [ExM] at h
    rw [ExMP]
    obtain ⟨hv, q, c, e, hc, hl⟩ := h
    exact ⟨hv, q, c, e, hc, ExL.toP l q 0 hl⟩
theorem ExL.toP {w : World} : ∀ (l : List Ex) (q : Option Addr) (i : Nat), ExL w q i l → ExLP w (fun g => g < w.heap.size) q i l
  | [], q, i, _ => by rw [ExLP]; trivial
  | x :: r, q, i, h => by
    rw [ExL] at h
    rw [ExLP]
    obtain ⟨⟨g, off, cs, e, hg, hx, hcell⟩, hr⟩ := h
    exact ⟨⟨g, off, cs, e, hg, hg, ExM.toP x cs hx, hcell⟩, ExL.toP r q (i + 1) hr⟩
end
mutual
theorem ExMP.on {w w' : World} {P Q : Nat → Prop} (hs : w.heap.size ≤ w'.heap.size) (hP : ∀ g, P g → g < w.heap.size → w'.heap[g]? = w.heap[g]?) (hQ : ∀ g, P g → g < w.heap.size → Q g) : ∀ (x : Ex) (cs : List Value), ExMP w P x cs → ExMP w' Q x cs
  | .mk op v rel col n s l, cs, h => by
    rw [ExMP] at h ⊢
    obtain ⟨hv, q, c, e, hc, hl⟩ := h
    exact ⟨hv, q, c, e, hc, ExLP.on hs hP hQ l q 0 hl⟩
theorem ExLP.on {w w' : World} {P Q : Nat → Prop} (hs : w.heap.size ≤ w'.heap.size) (hP : ∀ g, P g → g < w.heap.size → w'.heap[g]? = w.heap[g]?) (hQ : ∀ g, P g → g < w.heap.size → Q g) : ∀ (l : List Ex) (q : Option Addr) (i : Nat), ExLP w P q i l → ExLP w' Q q i l
  | [], q, i, _ => by rw [ExLP]; trivial
  | x :: r, q, i, h => by
    rw [ExLP] at h ⊢
    obtain ⟨⟨g, off, cs, e, hg, hp, hx, hcell⟩, hr⟩ := h
    exact ⟨⟨g, off, cs, e, Nat.lt_of_lt_of_le hg hs, hQ g hp hg, ExMP.on hs hP hQ x cs hx, fun k u hu => (World.cell?_of_block (w := w) (hP g hp hg)).trans (hcell k u hu)⟩, ExLP.on hs hP hQ r q (i + 1) hr⟩
end
theorem ExMP.below {w w' : World} {P : Nat → Prop} (hb : Below w.heap.size w w') {x : Ex} {cs : List Value} (h : ExMP w P x cs) : ExMP w' P x cs := ExMP.on hb.size (fun g _ hg => hb.block g hg) (fun _ h _ => h) x cs h
theorem ExMP.len {w : World} {P : Nat → Prop} {x : Ex} {cs : List Value} (h : ExMP w P x cs) : cs.length = 9 := ex_len9 (ExMP.toM x cs h)
theorem ExMP.raw {w : World} {P : Nat → Prop} {x : Ex} {cs : List Value} (h : ExMP w P x cs) : ∃ r : RawE, cs = r.cells := by
  obtain ⟨op, v, rel, col, n, s, l⟩ := x
  rw [ExMP.iff] at h
  obtain ⟨-, q, c, rfl, -, -⟩ := h
  exact ⟨⟨op, v, rel, col, n, s, q, l.length, c⟩, rfl⟩
theorem ExLP.at_ {w : World} {P : Nat → Prop} {q : Option Addr} : ∀ {l : List Ex} {i j : Nat} {x : Ex}, ExLP w P q i l → l[j]? = some x → ∃ g off cs, q = some ⟨g, off, none⟩ ∧ g < w.heap.size ∧ P g ∧ ExMP w P x cs ∧ ∀ (k : Nat) u, cs[k]? = some u → w.cell? ⟨g, off + (i + j) * 9 + k, none⟩ = some u
  | y :: l, i, 0, x, h, hx => by
    rw [ExLP] at h
    simp at hx
    subst hx
    exact h.1
  | y :: l, i, j + 1, x, h, hx => by
    rw [ExLP] at h
    have := ExLP.at_ (l := l) (i := i + 1) (j := j) h.2 (by simpa using hx)
    rw [show i + (j + 1) = i + 1 + j by omega]
    exact this
theorem ExLP.of {w : World} {P : Nat → Prop} {q : Option Addr} : ∀ {l : List Ex} {i : Nat}, (∀ (j : Nat) (x : Ex), l[j]? = some x → ∃ g off cs, q = some ⟨g, off, none⟩ ∧ g < w.heap.size ∧ P g ∧ ExMP w P x cs ∧ ∀ (k : Nat) u, cs[k]? = some u → w.cell? ⟨g, off + (i + j) * 9 + k, none⟩ = some u) → ExLP w P q i l
  | [], i, _ => by rw [ExLP]; trivial
  | x :: r, i, h => by
    rw [ExLP]
    refine ⟨?_, ExLP.of fun j y hy => ?_⟩
    · obtain ⟨g, off, cs, h1, h2, h3, h4, h5⟩ := h 0 x rfl
      exact ⟨g, off, cs, h1, h2, h3, h4, fun k u hu => h5 k u hu⟩
    · obtain ⟨g, off, cs, h1, h2, h3, h4, h5⟩ := h (j + 1) y (by simpa using hy)
      refine ⟨g, off, cs, h1, h2, h3, h4, fun k u hu => ?_⟩
      rw [show i + 1 + j = i + (j + 1) by omega]
      exact h5 k u hu
abbrev OwnE (w : World) (base : Nat) (v : Value) (K : List RawE) : Prop := OwnF w base 26 9 RawE.cells v K
theorem Tryd.infoExpr8 : (Tryd.prog.info? 26).map (fun i => (i.zero, i.size, i.bytes)) = some (some (.agg rawZ.cells.toArray), 9, 104) := by kernel_rfl
theorem ExLP.one {w : World} {P : Nat → Prop} {g : Nat} {x : Ex} {cs : List Value} (hx : ExMP w P x cs) (hg : g < w.heap.size) (hP : P g) (hc : ∀ (k : Nat) u, cs[k]? = some u → w.cell? ⟨g, k, none⟩ = some u) : ExLP w P (some ⟨g, 0, none⟩) 0 [x] := by
  rw [ExLP, ExLP]
  refine ⟨⟨g, 0, cs, rfl, hg, hP, hx, fun k u hu => ?_⟩, trivial⟩
  rw [show 0 + 0 * 9 + k = k by omega]
  exact hc k u hu
theorem ExLP.two {w : World} {P : Nat → Prop} {g : Nat} {x y : Ex} {cs ds : List Value} (hx : ExMP w P x cs) (hy : ExMP w P y ds) (hg : g < w.heap.size) (hP : P g) (hc : ∀ (k : Nat) u, (cs ++ ds)[k]? = some u → w.cell? ⟨g, k, none⟩ = some u) : ExLP w P (some ⟨g, 0, none⟩) 0 [x, y] := by
  have hl := hx.len
  rw [ExLP, ExLP, ExLP]
  refine ⟨⟨g, 0, cs, rfl, hg, hP, hx, fun k u hu => ?_⟩, ⟨g, 0, ds, rfl, hg, hP, hy, fun k u hu => ?_⟩, trivial⟩
  · rw [show 0 + 0 * 9 + k = k by omega]
    exact hc k u (by rw [List.getElem?_append_left (List.getElem?_eq_some_iff.1 hu).1]; exact hu)
  · rw [show 0 + (0 + 1) * 9 + k = 9 + k by omega]
    exact hc (9 + k) u (by rw [List.getElem?_append_right (by omega), hl, show 9 + k - 9 = k by omega]; exact hu)
open Go.RowKit Go.Deep
set_option maxRecDepth 100000
theorem OwnE.set1 {w : World} {b g n c i k : Nat} {K : List RawE} {r r' : RawE} {u : Value} (h : OwnE w b (.slice (some ⟨g, 0, none⟩) n c) (K.set i r)) (hi : i < K.length) (hk : k < 9) (hx : r'.cells = r.cells.set k u) : OwnE (w.setCell ⟨g, i * 9 + k, none⟩ u) b (.slice (some ⟨g, 0, none⟩) n c) (K.set i r') := by
  have h1 := OwnF.setc RawE.cells_len h (List.getElem?_set_self hi) hk hx
  rw [List.set_set] at h1
  exact h1
abbrev setE (w : World) (g o : Nat) (r : RawE) : World := ((((((((w.setCell ⟨g, o, none⟩ (.int .i64 r.op)).setCell ⟨g, o + 1, none⟩ (.int .i64 r.v.k)).setCell ⟨g, o + 2, none⟩ (.int .i64 r.v.n)).setCell ⟨g, o + 3, none⟩ (.string r.v.s)).setCell ⟨g, o + 4, none⟩ (.int .i64 r.rel)).setCell ⟨g, o + 5, none⟩ (.int .i64 r.col)).setCell ⟨g, o + 6, none⟩ (.int .i64 r.n)).setCell ⟨g, o + 7, none⟩ (.string r.s)).setCell ⟨g, o + 8, none⟩ (.slice r.q r.len r.c)
theorem OwnE.setAll {w : World} {b g n c i : Nat} {K : List RawE} (r' : RawE) (h : OwnE w b (.slice (some ⟨g, 0, none⟩) n c) K) (hi : i < K.length) : OwnE (setE w g (i * 9) r') b (.slice (some ⟨g, 0, none⟩) n c) (K.set i r') := by
  obtain ⟨op, ⟨vk, vn, vs⟩, rel, col, nn, s, q, len, cc⟩ := r'
  obtain ⟨r0, h0⟩ : ∃ r0, OwnE w b (.slice (some ⟨g, 0, none⟩) n c) (K.set i r0) := ⟨K[i], by rw [List.set_getElem_self]; exact h⟩
  obtain ⟨op0, ⟨vk0, vn0, vs0⟩, rel0, col0, nn0, s0, q0, len0, cc0⟩ := r0
  have h1 := OwnE.set1 (k := 0) (u := .int .i64 op) (r' := ⟨op, ⟨vk0, vn0, vs0⟩, rel0, col0, nn0, s0, q0, len0, cc0⟩) h0 hi (by decide) rfl
  have h2 := OwnE.set1 (k := 1) (u := .int .i64 vk) (r' := ⟨op, ⟨vk, vn0, vs0⟩, rel0, col0, nn0, s0, q0, len0, cc0⟩) h1 hi (by decide) rfl
  have h3 := OwnE.set1 (k := 2) (u := .int .i64 vn) (r' := ⟨op, ⟨vk, vn, vs0⟩, rel0, col0, nn0, s0, q0, len0, cc0⟩) h2 hi (by decide) rfl
  have h4 := OwnE.set1 (k := 3) (u := .string vs) (r' := ⟨op, ⟨vk, vn, vs⟩, rel0, col0, nn0, s0, q0, len0, cc0⟩) h3 hi (by decide) rfl
  have h5 := OwnE.set1 (k := 4) (u := .int .i64 rel) (r' := ⟨op, ⟨vk, vn, vs⟩, rel, col0, nn0, s0, q0, len0, cc0⟩) h4 hi (by decide) rfl
  have h6 := OwnE.set1 (k := 5) (u := .int .i64 col) (r' := ⟨op, ⟨vk, vn, vs⟩, rel, col, nn0, s0, q0, len0, cc0⟩) h5 hi (by decide) rfl
  have h7 := OwnE.set1 (k := 6) (u := .int .i64 nn) (r' := ⟨op, ⟨vk, vn, vs⟩, rel, col, nn, s0, q0, len0, cc0⟩) h6 hi (by decide) rfl
  have h8 := OwnE.set1 (k := 7) (u := .string s) (r' := ⟨op, ⟨vk, vn, vs⟩, rel, col, nn, s, q0, len0, cc0⟩) h7 hi (by decide) rfl
  exact OwnE.set1 (k := 8) (u := .slice q len cc) (r' := ⟨op, ⟨vk, vn, vs⟩, rel, col, nn, s, q, len, cc⟩) h8 hi (by decide) rfl
theorem setE_out (w : World) (g o : Nat) (r : RawE) : Out (fun k => k = g) w (setE w g o r) := by
  have e : ∀ (W : World) (o : Nat) (u : Value), Out (fun k => k = g) W (W.setCell ⟨g, o, none⟩ u) := fun W o u => Out.set ⟨g, o, none⟩ u rfl
  exact ((((((((e _ _ _).trans (e _ _ _)).trans (e _ _ _)).trans (e _ _ _)).trans (e _ _ _)).trans (e _ _ _)).trans (e _ _ _)).trans (e _ _ _)).trans (e _ _ _)
structure XB (W : World) (g : Nat) (r : RawE) : Prop where
  lt : g < W.heap.size
  c : ∀ k u, r.cells[k]? = some u → W.cell? ⟨g, k, none⟩ = some u
  fz : ∀ o, W.frozen? ⟨g, o, none⟩ = false
theorem XB.on {W W' : World} {g : Nat} {r : RawE} (h : XB W g r) (hb : Below W.heap.size W W') : XB W' g r :=
  ⟨Nat.lt_of_lt_of_le h.lt hb.size, fun k u hu => (hb.cell (p := ⟨g, k, none⟩) h.lt).trans (h.c k u hu), fun o => (hb.frozen (p := ⟨g, o, none⟩) h.lt).trans (h.fz o)⟩
theorem XB.out {S : Nat → Prop} {W W' : World} {g : Nat} {r : RawE} (h : XB W g r) (o : Out S W W') (hS : ¬ S g) : XB W' g r :=
  ⟨Nat.lt_of_lt_of_le h.lt o.size, fun k u hu => (World.cell?_of_block (w := W) (o.block g h.lt hS)).trans (h.c k u hu), fun k => by
    have h1 := h.fz k
    have h2 := o.block g h.lt hS
    unfold World.frozen? at h1 ⊢
    rw [h2]
    exact h1⟩
theorem XB.new (W : World) (r : RawE) (T : TypeId) : XB (W.alloc (.cells r.cells.toArray T)) W.heap.size r :=
  ⟨by simp, fun k u hu => by rw [Lib.cell_of_heap (heap_alloc_new W _)]; rw [List.getElem?_toArray]; exact hu, fun o => Lib.frozen_of_heap (heap_alloc_new W _) o⟩
theorem XB.cell8 {W : World} {g : Nat} {r : RawE} (h : XB W g r) (q : Option Addr) (len c : Nat) : XB (W.setCell ⟨g, 8, none⟩ (.slice q len c)) g ⟨r.op, r.v, r.rel, r.col, r.n, r.s, q, len, c⟩ :=
  ⟨by rw [World.size_setCell]; exact h.lt, fun k u hu => by
    by_cases hk : k = 8
    · subst hk
      have e : u = .slice q len c := by simp [RawE.cells, exCells] at hu; exact hu.symm
      rw [e]
      have h8 := h.c 8 _ rfl
      simp [go_sem, h8]
    · have hne : (⟨g, k, none⟩ : Addr) ≠ ⟨g, 8, none⟩ := fun e => hk (by injection e)
      refine (World.cell?_setCell_other _ _ _ _ (fun e => hne (by rw [e]))).trans (h.c k u ?_)
      have hk9 : k < 9 := (List.getElem?_eq_some_iff.1 hu).1
      match k, hk, hk9 with
      | 0, _, _ => exact hu
      | 1, _, _ => exact hu
      | 2, _, _ => exact hu
      | 3, _, _ => exact hu
      | 4, _, _ => exact hu
      | 5, _, _ => exact hu
      | 6, _, _ => exact hu
      | 7, _, _ => exact hu
      | 8, h, _ => exact absurd rfl h
      | k + 9, _, h => exact absurd h (by omega), fun o => by rw [World.frozen?_setCell]; exact h.fz o⟩
theorem XB.set1 {W : World} {g k : Nat} {r r' : RawE} {u : Value} (h : XB W g r) (hk : k < 9) (hx : r'.cells = r.cells.set k u) : XB (W.setCell ⟨g, k, none⟩ u) g r' :=
  ⟨by rw [World.size_setCell]; exact h.lt, fun j y hy => by
    rw [hx] at hy
    by_cases hj : j = k
    · subst hj
      rw [List.getElem?_set_self (by exact hk)] at hy
      cases hy
      have h8 := h.c j _ (List.getElem?_eq_getElem (by exact hk))
      simp [go_sem, h8]
    · rw [List.getElem?_set_ne (fun e => hj e.symm)] at hy
      exact (World.cell?_setCell_other _ _ _ _ (fun e => hj (by have h5 := congrArg Addr.off e; simp at h5; omega))).trans (h.c j y hy), fun o => by rw [World.frozen?_setCell]; exact h.fz o⟩
theorem XB.setAll {W : World} {g : Nat} {r : RawE} (h : XB W g r) (r' : RawE) : XB (setE W g 0 r') g r' := by
  obtain ⟨op, ⟨vk, vn, vs⟩, rel, col, nn, s, q, len, cc⟩ := r'
  obtain ⟨op0, ⟨vk0, vn0, vs0⟩, rel0, col0, nn0, s0, q0, len0, cc0⟩ := r
  have h1 := XB.set1 (k := 0) (u := .int .i64 op) (r' := ⟨op, ⟨vk0, vn0, vs0⟩, rel0, col0, nn0, s0, q0, len0, cc0⟩) h (by decide) rfl
  have h2 := XB.set1 (k := 1) (u := .int .i64 vk) (r' := ⟨op, ⟨vk, vn0, vs0⟩, rel0, col0, nn0, s0, q0, len0, cc0⟩) h1 (by decide) rfl
  have h3 := XB.set1 (k := 2) (u := .int .i64 vn) (r' := ⟨op, ⟨vk, vn, vs0⟩, rel0, col0, nn0, s0, q0, len0, cc0⟩) h2 (by decide) rfl
  have h4 := XB.set1 (k := 3) (u := .string vs) (r' := ⟨op, ⟨vk, vn, vs⟩, rel0, col0, nn0, s0, q0, len0, cc0⟩) h3 (by decide) rfl
  have h5 := XB.set1 (k := 4) (u := .int .i64 rel) (r' := ⟨op, ⟨vk, vn, vs⟩, rel, col0, nn0, s0, q0, len0, cc0⟩) h4 (by decide) rfl
  have h6 := XB.set1 (k := 5) (u := .int .i64 col) (r' := ⟨op, ⟨vk, vn, vs⟩, rel, col, nn0, s0, q0, len0, cc0⟩) h5 (by decide) rfl
  have h7 := XB.set1 (k := 6) (u := .int .i64 nn) (r' := ⟨op, ⟨vk, vn, vs⟩, rel, col, nn, s0, q0, len0, cc0⟩) h6 (by decide) rfl
  have h8 := XB.set1 (k := 7) (u := .string s) (r' := ⟨op, ⟨vk, vn, vs⟩, rel, col, nn, s, q0, len0, cc0⟩) h7 (by decide) rfl
  exact XB.set1 (k := 8) (u := .slice q len cc) (r' := ⟨op, ⟨vk, vn, vs⟩, rel, col, nn, s, q, len, cc⟩) h8 (by decide) rfl
open Go.RowKit Go.Deep
set_option maxRecDepth 100000
def OwnX (w : World) (b : Nat) (P : Nat → Prop) (v : Value) (L : List Ex) : Prop :=
  ∃ K : List RawE, OwnE w b v K ∧ K.length = L.length ∧ ∀ (j : Nat) (r : RawE) (x : Ex), K[j]? = some r → L[j]? = some x → ExMP w (fun k => P k ∧ v.ownBlock ≠ some k) x r.cells
theorem OwnX.nil (w : World) (b : Nat) (P : Nat → Prop) : OwnX w b P (.slice none 0 0) [] := ⟨[], OwnF.nil _ _ _, rfl, fun j r x h _ => by simp at h⟩
theorem OwnX.later {w w' : World} {b : Nat} {P : Nat → Prop} {v : Value} {L : List Ex} (h : OwnX w b P v L) (hb : Below w.heap.size w w') : OwnX w' b P v L := by
  obtain ⟨K, h1, h2, h3⟩ := h
  exact ⟨K, h1.later hb, h2, fun j r x hr hx => (h3 j r x hr hx).below hb⟩
theorem OwnX.outs {S : Nat → Prop} {w w' : World} {b : Nat} {P : Nat → Prop} {v : Value} {L : List Ex} (h : OwnX w b P v L) (o : Out S w w') (h1 : ∀ k, S k → v.ownBlock ≠ some k) (h2 : ∀ k, S k → ¬ P k) : OwnX w' b P v L := by
  obtain ⟨K, h3, h4, h5⟩ := h
  exact ⟨K, h3.kept o h1, h4, fun j r x hr hx => ExMP.on o.size (fun k hk hkw => o.block k hkw fun e => h2 k e hk.1) (fun _ h _ => h) _ _ (h5 j r x hr hx)⟩
theorem OwnX.weaken {w : World} {b b' : Nat} {P Q : Nat → Prop} {v : Value} {L : List Ex} (h : OwnX w b P v L) (hb : b' ≤ b) (hQ : ∀ k, P k → k < w.heap.size → Q k) : OwnX w b' Q v L := by
  obtain ⟨K, h1, h2, h3⟩ := h
  exact ⟨K, h1.base_le hb, h2, fun j r x hr hx => ExMP.on (Nat.le_refl _) (fun _ _ _ => rfl) (fun k hk hkw => ⟨hQ k hk.1 hkw, hk.2⟩) _ _ (h3 j r x hr hx)⟩
theorem OwnX.src {w : World} {b : Nat} {q : Option Addr} {n c : Nat} {K : List RawE} (h : OwnE w b (.slice q n c) K) : ArrA b w.heap.size q 9 K (fun g o r => ∀ (k : Nat) u, r.cells[k]? = some u → w.cell? ⟨g, o + k, none⟩ = some u) := by
  obtain ⟨q', c', e, -, -, -, h6⟩ := OwnF.arr RawE.cells_len h
  simp only [Value.slice.injEq] at e
  obtain ⟨rfl, -, -⟩ := e
  exact h6
theorem OwnX.toP {w : World} {b : Nat} {P Q : Nat → Prop} {v : Value} {L : List Ex} (h : OwnX w b P v L) (hP : ∀ k, P k → k < w.heap.size → Q k) (hb : ∀ k, b ≤ k → k < w.heap.size → Q k) : ∃ q c, v = .slice q L.length c ∧ L.length ≤ c ∧ c ≤ 9223372036854775807 ∧ ExLP w Q q 0 L := by
  obtain ⟨K, h1, h2, h3⟩ := h
  obtain ⟨q, c, rfl, hlc, hc, -, hA⟩ := OwnF.arr RawE.cells_len h1
  refine ⟨q, c, by rw [h2], by rw [← h2]; exact hlc, hc, ExLP.of fun j y hy => ?_⟩
  have hj : j < K.length := by rw [h2]; exact (List.getElem?_eq_some_iff.1 hy).1
  have hr : K[j]? = some (K[j]'hj) := List.getElem?_eq_getElem hj
  obtain ⟨g, o, hq, hbg, hg, hcell⟩ := hA j hj
  refine ⟨g, o, _, hq, hg, hb g hbg hg, ExMP.on (Nat.le_refl _) (fun _ _ _ => rfl) (fun k hk hkw => hP k hk.1 hkw) _ _ (h3 j _ y hr hy), fun k u hu => ?_⟩
  rw [Nat.zero_add]
  exact hcell j _ hr k u hu
theorem OwnX.toL {w : World} {b : Nat} {P : Nat → Prop} {v : Value} {L : List Ex} (h : OwnX w b P v L) : ∃ q c, v = .slice q L.length c ∧ L.length ≤ c ∧ c ≤ 9223372036854775807 ∧ ExL w q 0 L := by
  obtain ⟨q, c, h1, h2, h3, h4⟩ := h.toP (Q := fun _ => True) (fun _ _ _ => trivial) (fun _ _ _ => trivial)
  exact ⟨q, c, h1, h2, h3, ExLP.toL _ _ _ h4⟩
theorem OwnX.lt {w : World} {b : Nat} {P : Nat → Prop} {v : Value} {L : List Ex} (h : OwnX w b P v L) (k : Nat) (hk : v.ownBlock = some k) : b ≤ k ∧ k < w.heap.size := by
  obtain ⟨K, h1, -, -⟩ := h
  exact World.ownsRow.lt h1 k hk
theorem wp_append_x {w : World} {ops : Array Oper} {rest : List Oper} {o : Oper} {a : Act} {Q : Exit → Act → World → Prop} (hgd : o.guard = none) (s x : Operand)
    (ho : o.op = .call { callee := .builtin .append, args := #[s, x], argTypes := #[24, 24] }) (b : Nat) (P : Nat → Prop) (v : Value) (L : List Ex) (hs : a.eval s = v) (hL : OwnX w b P v L) (nn : Nat) (hnn : nn = L.length)
    (r : RawE) (y : Ex) (p : Option Addr) (cp lo hi : Nat) (hx : a.eval x = .slice p 1 cp) (hR : ArrA lo hi p 9 [r] (fun g o r => ∀ (k : Nat) u, r.cells[k]? = some u → w.cell? ⟨g, o + k, none⟩ = some u))
    (hy : ExMP w (fun k => P k ∧ v.ownBlock ≠ some k) y r.cells) (hn : (nn + 1) * 104 ≤ 140737488355328) (hb : b ≤ w.heap.size)
    (h : ∀ q c w', OwnX w' b P (.slice q (nn + 1) c) (L ++ [y]) → Below b w w' → Out (fun k => v.ownBlock = some k) w w' → wpList Tryd.prog ops Q rest (a.put o.dst (.slice q (nn + 1) c)) w') : wpList Tryd.prog ops Q (o :: rest) a w := by
  subst hnn
  obtain ⟨K, h1, h2, h3⟩ := hL
  obtain ⟨v', w', hr, h4, h5, h6, h7⟩ := run_append_flat w 24 26 o.type Tryd.underlying24 _ 104 Tryd.infoExpr8 rfl (by decide) RawE.cells_len RawE.cells_one b v K h1 p 1 cp [r] rfl lo hi hR (by rw [h2]; simp only [List.length_cons, List.length_nil]; unfold maxLen; omega) (by rw [h2]; simpa using hn) hb
  obtain ⟨q, c, e, -⟩ := OwnF.arr RawE.cells_len h4
  have el : (K ++ [r]).length = L.length + 1 := by simp [h2]
  rw [el] at e
  subst e
  refine wpList_plain hgd fun KK hK => ?_
  unfold Oper.wp execOp
  simp only [ho, resolve, invoke, builtin, Sem.run_bind, Sem.run_pure, Result.andThen_ok, List.map_toArray, List.map_cons, List.map_nil, hs, hx, hr]
  refine hK _ _ (h q c w' ⟨K ++ [r], h4, by simp [h2], fun j r0 z hr0 hz => ?_⟩ h5 h6)
  have hP : ∀ (y : Ex) (cs : List Value), ExMP w (fun k => P k ∧ v.ownBlock ≠ some k) y cs → ExMP w' (fun k => P k ∧ (Value.slice q (L.length + 1) c).ownBlock ≠ some k) y cs := fun y cs hy => ExMP.on h6.size (fun k hk hkw => h6.block k hkw hk.2) (fun k hk hkw => ⟨hk.1, fun e => by
    rcases h7 with h7 | h7
    · rw [h7] at e; exact hk.2 e
    · rw [h7] at e; cases e; exact Nat.lt_irrefl _ hkw⟩) y cs hy
  by_cases hj : j < K.length
  · rw [List.getElem?_append_left hj] at hr0
    rw [List.getElem?_append_left (by omega)] at hz
    exact hP _ _ (h3 j r0 z hr0 hz)
  · have hjk : j = K.length := by
      have := (List.getElem?_eq_some_iff.1 hr0).1
      simp at this
      omega
    rw [hjk, List.getElem?_append_right (Nat.le_refl _), Nat.sub_self] at hr0
    rw [hjk, h2, List.getElem?_append_right (Nat.le_refl _), Nat.sub_self] at hz
    simp at hr0 hz
    subst hr0 hz
    exact hP _ _ hy
def MakesE (w : World) (f : Nat) (caps : List Value) (F : Ex → Ex) (l : List Ex) : Prop :=
  ∀ y ∈ l, ∀ (W : World) (cs : List Value), Below w.heap.size w W → ExM W y cs → Calls Tryd.prog f (Value.agg cs.toArray :: caps).toArray W fun e W' => (∃ cs' : List Value, e = .returned (.agg cs'.toArray) ∧ ExMP W' (fun g => W.heap.size ≤ g) (F y) cs') ∧ Below W.heap.size W W'
set_option maxHeartbeats 8000000 in
theorem changed_any (f : Nat) (caps : List Value) (F : Ex → Ex) (l : List Ex) (q : Option Addr) (c : Nat) (w : World) (hl : ExL w q 0 l) (hn : l.length * 104 ≤ 140737488355328) (hF : MakesE w f caps F l)
    (hen : ∀ (vals : Array Value) (W : World), (callFunc f vals).run Tryd.prog W = .ok (.enter f vals) W) :
    Calls Tryd.prog 38 #[.slice q l.length c, .func (.func f) #[] caps.toArray] w fun e w' => (∃ v, e = .returned v ∧ OwnX w' w.heap.size (fun k => w.heap.size ≤ k) v (l.map F)) ∧ Below w.heap.size w w' := by
  have HL := Lib.hid hl
  have HF := Lib.hid hF
  obtain ⟨len, hlen⟩ : ∃ len, len = l.length := ⟨_, rfl⟩
  rw [← hlen] at hn ⊢
  have HLEN := Lib.hid hlen
  clear hl hF hlen
  go_enter Tryd.func38, Tryd.ntmps38
  go_wp2_with fail
  go_loopw [5, 10] (fun v5 v10 wr => ∃ i : Nat, v10 = .int .i64 i ∧ i ≤ len ∧ Hid (OwnX wr w.heap.size (fun k => w.heap.size ≤ k) v5 ((l.take i).map F) ∧ Below w.heap.size w wr)) (fun _ v10 _ => ((len : Int) - intOf v10).toNat)
  case atStart => exact ⟨0, rfl, Nat.zero_le _, OwnX.nil _ _ _, Below.refl _ _⟩
  case round =>
    obtain ⟨i, rfl, hi, HH⟩ := hrel
    obtain ⟨V, hV⟩ : ∃ V, V = wr := ⟨_, rfl⟩
    rw [← hV] at HH
    rw [← hV]
    clear hV
    have HO := Lib.hid HH.out.1
    have HB := Lib.hid HH.out.2
    clear HH
    by_cases hlt : i < len
    · obtain ⟨y, hy⟩ : ∃ y, l[i]? = some y := ⟨_, List.getElem?_eq_getElem (by rw [← HLEN.out]; exact hlt)⟩
      have hl_ := ExL.at_ (ExL.ext HB.out _ _ _ HL.out) hy
      obtain ⟨g0, off0, cs0, hq0, hg0, hx0, hcell⟩ := hl_
      subst hq0
      have HX0 := Lib.hid hx0
      have HFY := Lib.hid (HF.out y (List.mem_of_getElem? hy))
      have HT := Lib.hid (show (l.take (i + 1)).map F = (l.take i).map F ++ [F y] by rw [take_snoc hy, List.map_append]; rfl)
      have HTL := Lib.hid (show ((l.take i).map F).length = i by rw [List.length_map, List.length_take]; have := HLEN.out; omega)
      clear hy
      obtain ⟨op1, v1, rel1, col1, n1, s1, l1⟩ := y
      rw [ExM.iff] at hx0
      obtain ⟨-, qq0, cc0, rfl, -, -⟩ := hx0
      have f0 := hcell 0 _ rfl
      have f1 := hcell 1 _ rfl
      have f2 := hcell 2 _ rfl
      have f3 := hcell 3 _ rfl
      have f4 := hcell 4 _ rfl
      have f5 := hcell 5 _ rfl
      have f6 := hcell 6 _ rfl
      have f7 := hcell 7 _ rfl
      have f8 := hcell 8 _ rfl
      simp only [Nat.zero_add, Nat.add_zero] at f0 f1 f2 f3 f4 f5 f6 f7 f8
      clear hcell
      have z0 : V.heap.size < (V.alloc (.cells (exCells op1 v1 rel1 col1 n1 s1 qq0 l1.length cc0).toArray 26)).heap.size := by simp
      go_wp2_with fail
      have B1 : Below V.heap.size V (V.alloc (.cells (exCells op1 v1 rel1 col1 n1 s1 qq0 l1.length cc0).toArray 26)) := ext_alloc (ext_refl _) _
      refine (HFY.out (V.alloc (.cells (exCells op1 v1 rel1 col1 n1 s1 qq0 l1.length cc0).toArray 26)) _ (HB.out.trans (B1.mono HB.out.size)) (ExM.ext B1 _ _ HX0.out)).mono ?_
      rintro e X ⟨⟨cs', rfl, hX⟩, hbX⟩
      have HXM := Lib.hid hX
      have HBX := Lib.hid (B1.trans (hbX.mono B1.size))
      obtain ⟨r', rfl⟩ := hX.raw
      have HZ := Lib.hid z0
      clear hX hbX B1 z0 f0 f1 f2 f3 f4 f5 f6 f7 f8
      obtain ⟨op2, ⟨vk2, vn2, vs2⟩, rel2, col2, n2, s2, q2, len2, c2⟩ := r'
      have HO2 := Lib.hid ((HO.out.later HBX.out).later (ext_alloc (ext_refl X) (.cells (exCells op2 ⟨vk2, vn2, vs2⟩ rel2 col2 n2 s2 q2 len2 c2).toArray 26)))
      have B2 := Lib.hid (HBX.out.trans ((ext_alloc (ext_refl X) (.cells (exCells op2 ⟨vk2, vn2, vs2⟩ rel2 col2 n2 s2 q2 len2 c2).toArray 26)).mono HBX.out.size))
      obtain ⟨S, hS⟩ : ∃ S, S = F (.mk op1 v1 rel1 col1 n1 s1 l1) := ⟨_, rfl⟩
      rw [← hS] at HXM HT
      obtain ⟨M, hM⟩ : ∃ M, M = (l.take i).map F := ⟨_, rfl⟩
      rw [← hM] at HO2 HT HTL HO
      clear hS hM
      go_wp2_with (at_builtin; refine wp_append_x rfl _ _ rfl w.heap.size (fun k => w.heap.size ≤ k) _ M rfl HO2.out i HTL.out.symm ⟨op2, ⟨vk2, vn2, vs2⟩, rel2, col2, n2, s2, q2, len2, c2⟩ S _ _ 0 (X.heap.size + 1) rfl (one_block RawE.cells_len 26 _ ⟨op2, ⟨vk2, vn2, vs2⟩, rel2, col2, n2, s2, q2, len2, c2⟩ rfl _ rfl) ?k1 ?k2 ?k3 ?_)
      case k1 =>
        refine ExMP.on (by simp) (fun k _ hk => (ext_alloc (ext_refl X) _).block k hk) (fun k hk _ => ⟨?_, fun e => ?_⟩) _ _ HXM.out
        · have h1 := HB.out.size
          have h2 := HZ.out
          have hk : _ ≤ k := hk
          omega
        · have h1 := (HO.out.lt k e).2
          have h2 := HZ.out
          have hk : _ ≤ k := hk
          omega
      case k2 => omega
      case k3 => exact Nat.le_trans HB.out.size B2.out.size
      intro q3 c3 Y hO hbY hoY
      rw [← HT.out] at hO
      have HN := Lib.hid hO
      have HBY := Lib.hid ((HB.out.trans (B2.out.mono HB.out.size)).trans hbY)
      clear hO hbY hoY HO HO2 HB B2 HBX HX0 HXM HZ HFY
      go_wp2_with fail
      go_roundw
      case rel => exact ⟨i + 1, by go_num, hlt, HN.out, HBY.out⟩
      case measure => simp [intOf] <;> omega
    · have HE := Lib.hid (show (l.take i).map F = l.map F by rw [show i = l.length by rw [← HLEN.out]; omega, List.take_length])
      go_wp2_with fail
      refine bodyPost_ret (v := u5) (by simp [results, Tryd.results38, go_sem]) rfl ⟨⟨_, rfl, by rw [← HE.out]; exact HO.out⟩, HB.out⟩
open Go.RowKit Go.Deep
set_option maxRecDepth 100000
set_option maxHeartbeats 8000000 in
theorem exchange_any (b g c : Nat) (r0 r1 : RawE) (w : World) (hO : OwnE w b (.slice (some ⟨g, 0, none⟩) 2 c) [r0, r1]) :
    Calls Tryd.prog 39 #[.slice (some ⟨g, 0, none⟩) 2 c] w fun e w' => e = .returned (.tuple #[]) ∧ OwnE w' b (.slice (some ⟨g, 0, none⟩) 2 c) [r1, r0] ∧ Out (fun k => k = g) w w' := by
  have HO := Lib.hid hO
  have e0 := fun k u hu => OwnF.cellAt RawE.cells_len hO (j := 0) (x := r0) rfl (k := k) (u := u) hu
  have e1 := fun k u hu => OwnF.cellAt RawE.cells_len hO (j := 1) (x := r1) rfl (k := k) (u := u) hu
  obtain ⟨op, ⟨vk, vn, vs⟩, rel, col, nn, s, q, len, cc⟩ := r0
  obtain ⟨op', ⟨vk', vn', vs'⟩, rel', col', nn', s', q', len', cc'⟩ := r1
  have f0 := (e0 0 _ rfl).1
  have f1 := (e0 1 _ rfl).1
  have f2 := (e0 2 _ rfl).1
  have f3 := (e0 3 _ rfl).1
  have f4 := (e0 4 _ rfl).1
  have f5 := (e0 5 _ rfl).1
  have f6 := (e0 6 _ rfl).1
  have f7 := (e0 7 _ rfl).1
  have f8 := (e0 8 _ rfl).1
  have h0 := (e1 0 _ rfl).1
  have h1 := (e1 1 _ rfl).1
  have h2 := (e1 2 _ rfl).1
  have h3 := (e1 3 _ rfl).1
  have h4 := (e1 4 _ rfl).1
  have h5 := (e1 5 _ rfl).1
  have h6 := (e1 6 _ rfl).1
  have h7 := (e1 7 _ rfl).1
  have h8 := (e1 8 _ rfl).1
  have hf := (e0 0 _ rfl).2
  simp only [Nat.zero_mul, Nat.one_mul, Nat.zero_add, Nat.add_zero, Nat.reduceAdd] at f0 f1 f2 f3 f4 f5 f6 f7 f8 h0 h1 h2 h3 h4 h5 h6 h7 h8 hf
  clear e0 e1 hO
  go_enter Tryd.func39, Tryd.ntmps39
  go_wp2_with fail
  go_region
  have O1 := OwnE.setAll (i := 0) ⟨op', ⟨vk', vn', vs'⟩, rel', col', nn', s', q', len', cc'⟩ HO.out (by simp)
  have O2 := OwnE.setAll (i := 1) ⟨op, ⟨vk, vn, vs⟩, rel, col, nn, s, q, len, cc⟩ O1 (by simp)
  have hout := (setE_out w g (0 * 9) ⟨op', ⟨vk', vn', vs'⟩, rel', col', nn', s', q', len', cc'⟩).trans (setE_out _ g (1 * 9) ⟨op, ⟨vk, vn, vs⟩, rel, col, nn, s, q, len, cc⟩)
  simp only [setE, Nat.zero_mul, Nat.one_mul, Nat.zero_add, Nat.reduceAdd, List.set_cons_zero, List.set_cons_succ] at O2 hout
  clear O1 f0 f1 f2 f3 f4 f5 f6 f7 f8 h0 h1 h2 h3 h4 h5 h6 h7 h8 hf HO
  revert O2 hout
  generalize World.setCell _ _ _ = M
  intro O2 hout
  exact bodyPost_end (results_none (by rfl) _ _ _) rfl ⟨rfl, O2.later (ext_drew (ext_refl _)), hout.trans (Out.drew _)⟩
open Go.RowKit
theorem bytesLess_self : ∀ a : List UInt8, Op.bytesLess a a = false
  | [] => rfl
  | a :: x => by
    rw [Op.bytesLess, bytesLess_self x, Bool.and_false, Bool.or_false]
    simp
open Go.RowKit
theorem bl_trans : ∀ a b c : List UInt8, Op.bytesLess a b = true → Op.bytesLess b c = true → Op.bytesLess a c = true
  | _, [], _, h, _ => by simp [Op.bytesLess] at h
  | _, _ :: _, [], _, h => by simp [Op.bytesLess] at h
  | [], _ :: _, _ :: _, _, _ => rfl
  | a :: x, b :: y, c :: z, h, h' => by
    simp only [Op.bytesLess, Bool.or_eq_true, decide_eq_true_eq, Bool.and_eq_true, beq_iff_eq] at h h' ⊢
    rcases h with h | ⟨rfl, h⟩
    · rcases h' with h' | ⟨rfl, _⟩
      · exact .inl (UInt8.lt_trans h h')
      · exact .inl h
    · rcases h' with h' | ⟨rfl, h'⟩
      · exact .inl h'
      · exact .inr ⟨rfl, bl_trans x y z h h'⟩
theorem bl_total : ∀ a b : List UInt8, a ≠ b → Op.bytesLess a b = false → Op.bytesLess b a = true
  | [], [], h, _ => absurd rfl h
  | [], _ :: _, _, h => by simp [Op.bytesLess] at h
  | _ :: _, [], _, _ => rfl
  | a :: x, b :: y, h, h' => by
    simp only [Op.bytesLess, Bool.or_eq_false_iff, decide_eq_false_iff_not, Bool.and_eq_false_iff, beq_eq_false_iff_ne] at h'
    simp only [Op.bytesLess, Bool.or_eq_true, decide_eq_true_eq, Bool.and_eq_true, beq_iff_eq]
    by_cases e : a = b
    · subst e
      refine .inr ⟨rfl, bl_total x y (fun e' => h (by rw [e'])) ?_⟩
      rcases h'.2 with h2 | h2
      · exact absurd rfl h2
      · exact h2
    · left
      have h1 := h'.1
      rw [UInt8.lt_iff_toNat_lt] at h1 ⊢
      have : a.toNat ≠ b.toNat := fun e' => e (UInt8.toNat_inj.1 e')
      omega
theorem bl_anti (a b : List UInt8) (h : Op.bytesLess a b = true) : Op.bytesLess b a = false := by
  cases h' : Op.bytesLess b a
  · rfl
  · have := bl_trans a b a h h'
    rw [bytesLess_self] at this
    cases this
end Go.Proofs.YtklgoajgchfmeaaDoor
