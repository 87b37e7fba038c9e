/- Expressions whose operands lie in blocks of a kind (ExMP); lists of expressions of a call's own; slices.Clone of operands. -/
import Derived.Test.YtiidfghdmaipoaaDoorEgB
import Derived.Test.YtiidfghdmaipoaaDoorFlat2
namespace Go.Proofs.YtiidfghdmaipoaaDoor
open Go.RowKit Go.Deep
set_option maxRecDepth 100000

/-- An expression as its own cells say it. -/
structure RawE where
  op : Int
  v : Val
  rel : Int
  col : Int
  n : Int
  s : ByteArray
  q : Option Addr
  len : Nat
  c : Nat
abbrev RawE.cells (r : RawE) : List Value := exCells r.op r.v r.rel r.col r.n r.s r.q r.len r.c
theorem RawE.cells_len (r : RawE) : r.cells.length = 9 := rfl
theorem RawE.cells_one (r : RawE) (u : Value) (h : u ∈ r.cells) : u.oneCell' = true := by
  simp only [RawE.cells, exCells, List.mem_cons, List.not_mem_nil, or_false] at h
  rcases h with rfl | rfl | rfl | rfl | rfl | rfl | rfl | rfl | rfl <;> rfl
theorem RawE.inj {r r' : RawE} (h : r.cells = r'.cells) : r = r' := by
  obtain ⟨op, ⟨vk, vn, vs⟩, rel, col, n, s, q, len, c⟩ := r
  obtain ⟨op', ⟨vk', vn', vs'⟩, rel', col', n', s', q', len', c'⟩ := r'
  simp [RawE.cells, exCells] at h
  obtain ⟨rfl, rfl, rfl, rfl, rfl, rfl, rfl, rfl, rfl, rfl, rfl⟩ := h
  rfl
def rawZ : RawE := ⟨0, zeroVal, 0, 0, 0, ⟨#[]⟩, none, 0, 0⟩
instance : Inhabited RawE := ⟨rawZ⟩

mutual
/-- The expression x, its own cells cs; all its operands lie in blocks with P. -/
def ExMP (w : World) (P : Nat → Prop) : Ex → List Value → Prop
  | .mk op v rel col n s l, cs => okVal v ∧ ∃ q c, cs = exCells op v rel col n s q l.length c ∧ l.length ≤ c ∧ ExLP w P q 0 l
def ExLP (w : World) (P : Nat → Prop) (q : Option Addr) : Nat → List Ex → Prop
  | _, [] => True
  | i, x :: r => (∃ g off cs, q = some ⟨g, off, none⟩ ∧ g < w.heap.size ∧ P g ∧ ExMP w P x cs ∧ ∀ (k : Nat) u, cs[k]? = some u → w.cell? ⟨g, off + i * 9 + k, none⟩ = some u) ∧ ExLP w P q (i + 1) r
end
theorem ExMP.iff {w : World} {P : Nat → Prop} {op : Int} {v : Val} {rel col n : Int} {s : ByteArray} {l : List Ex} {cs : List Value} : ExMP w P (.mk op v rel col n s l) cs ↔ okVal v ∧ ∃ q c, cs = exCells op v rel col n s q l.length c ∧ l.length ≤ c ∧ ExLP w P q 0 l := by rw [ExMP]

mutual
theorem ExMP.toM {w : World} {P : Nat → Prop} : ∀ (x : Ex) (cs : List Value), ExMP w P x cs → ExM w x cs
  | .mk op v rel col n s l, cs, h => by
    rw [ExMP] at h
    rw [ExM]
    obtain ⟨hv, q, c, e, hc, hl⟩ := h
    exact ⟨hv, q, c, e, hc, ExLP.toL l q 0 hl⟩
theorem ExLP.toL {w : World} {P : Nat → Prop} : ∀ (l : List Ex) (q : Option Addr) (i : Nat), ExLP w P q i l → ExL w q i l
  | [], q, i, _ => by rw [ExL]; trivial
  | x :: r, q, i, h => by
    rw [ExLP] at h
    rw [ExL]
    obtain ⟨⟨g, off, cs, e, hg, _, hx, hcell⟩, hr⟩ := h
    exact ⟨⟨g, off, cs, e, hg, ExMP.toM x cs hx, hcell⟩, ExLP.toL r q (i + 1) hr⟩
end
mutual
theorem ExM.toP {w : World} : ∀ (x : Ex) (cs : List Value), ExM w x cs → ExMP w (fun g => g < w.heap.size) x cs
  | .mk op v rel col n s l, cs, h => by
    rw [ExM] at h
    rw [ExMP]
    obtain ⟨hv, q, c, e, hc, hl⟩ := h
    exact ⟨hv, q, c, e, hc, ExL.toP l q 0 hl⟩
theorem ExL.toP {w : World} : ∀ (l : List Ex) (q : Option Addr) (i : Nat), ExL w q i l → ExLP w (fun g => g < w.heap.size) q i l
  | [], q, i, _ => by rw [ExLP]; trivial
  | x :: r, q, i, h => by
    rw [ExL] at h
    rw [ExLP]
    obtain ⟨⟨g, off, cs, e, hg, hx, hcell⟩, hr⟩ := h
    exact ⟨⟨g, off, cs, e, hg, hg, ExM.toP x cs hx, hcell⟩, ExL.toP r q (i + 1) hr⟩
end
mutual
/-- .. at a later world in which no block with P has changed. -/
theorem ExMP.on {w w' : World} {P Q : Nat → Prop} (hs : w.heap.size ≤ w'.heap.size) (hP : ∀ g, P g → g < w.heap.size → w'.heap[g]? = w.heap[g]?) (hQ : ∀ g, P g → g < w.heap.size → Q g) : ∀ (x : Ex) (cs : List Value), ExMP w P x cs → ExMP w' Q x cs
  | .mk op v rel col n s l, cs, h => by
    rw [ExMP] at h ⊢
    obtain ⟨hv, q, c, e, hc, hl⟩ := h
    exact ⟨hv, q, c, e, hc, ExLP.on hs hP hQ l q 0 hl⟩
theorem ExLP.on {w w' : World} {P Q : Nat → Prop} (hs : w.heap.size ≤ w'.heap.size) (hP : ∀ g, P g → g < w.heap.size → w'.heap[g]? = w.heap[g]?) (hQ : ∀ g, P g → g < w.heap.size → Q g) : ∀ (l : List Ex) (q : Option Addr) (i : Nat), ExLP w P q i l → ExLP w' Q q i l
  | [], q, i, _ => by rw [ExLP]; trivial
  | x :: r, q, i, h => by
    rw [ExLP] at h ⊢
    obtain ⟨⟨g, off, cs, e, hg, hp, hx, hcell⟩, hr⟩ := h
    exact ⟨⟨g, off, cs, e, Nat.lt_of_lt_of_le hg hs, hQ g hp hg, ExMP.on hs hP hQ x cs hx, fun k u hu => (World.cell?_of_block (w := w) (hP g hp hg)).trans (hcell k u hu)⟩, ExLP.on hs hP hQ r q (i + 1) hr⟩
end
theorem ExMP.below {w w' : World} {P : Nat → Prop} (hb : Below w.heap.size w w') {x : Ex} {cs : List Value} (h : ExMP w P x cs) : ExMP w' P x cs := ExMP.on hb.size (fun g _ hg => hb.block g hg) (fun _ h _ => h) x cs h
theorem ExMP.len {w : World} {P : Nat → Prop} {x : Ex} {cs : List Value} (h : ExMP w P x cs) : cs.length = 9 := ex_len (ExMP.toM x cs h)
theorem ExMP.raw {w : World} {P : Nat → Prop} {x : Ex} {cs : List Value} (h : ExMP w P x cs) : ∃ r : RawE, cs = r.cells := by
  obtain ⟨op, v, rel, col, n, s, l⟩ := x
  rw [ExMP.iff] at h
  obtain ⟨-, q, c, rfl, -, -⟩ := h
  exact ⟨⟨op, v, rel, col, n, s, q, l.length, c⟩, rfl⟩
theorem ExLP.at_ {w : World} {P : Nat → Prop} {q : Option Addr} : ∀ {l : List Ex} {i j : Nat} {x : Ex}, ExLP w P q i l → l[j]? = some x → ∃ g off cs, q = some ⟨g, off, none⟩ ∧ g < w.heap.size ∧ P g ∧ ExMP w P x cs ∧ ∀ (k : Nat) u, cs[k]? = some u → w.cell? ⟨g, off + (i + j) * 9 + k, none⟩ = some u
  | y :: l, i, 0, x, h, hx => by
    rw [ExLP] at h
    simp at hx
    subst hx
    exact h.1
  | y :: l, i, j + 1, x, h, hx => by
    rw [ExLP] at h
    have := ExLP.at_ (l := l) (i := i + 1) (j := j) h.2 (by simpa using hx)
    rw [show i + (j + 1) = i + 1 + j by omega]
    exact this
theorem ExLP.of {w : World} {P : Nat → Prop} {q : Option Addr} : ∀ {l : List Ex} {i : Nat}, (∀ (j : Nat) (x : Ex), l[j]? = some x → ∃ g off cs, q = some ⟨g, off, none⟩ ∧ g < w.heap.size ∧ P g ∧ ExMP w P x cs ∧ ∀ (k : Nat) u, cs[k]? = some u → w.cell? ⟨g, off + (i + j) * 9 + k, none⟩ = some u) → ExLP w P q i l
  | [], i, _ => by rw [ExLP]; trivial
  | x :: r, i, h => by
    rw [ExLP]
    refine ⟨?_, ExLP.of fun j y hy => ?_⟩
    · obtain ⟨g, off, cs, h1, h2, h3, h4, h5⟩ := h 0 x rfl
      exact ⟨g, off, cs, h1, h2, h3, h4, fun k u hu => h5 k u hu⟩
    · obtain ⟨g, off, cs, h1, h2, h3, h4, h5⟩ := h (j + 1) y (by simpa using hy)
      refine ⟨g, off, cs, h1, h2, h3, h4, fun k u hu => ?_⟩
      rw [show i + 1 + j = i + (j + 1) by omega]
      exact h5 k u hu

/-- Expressions in a block of the call's own, as their cells say them. -/
abbrev OwnE (w : World) (base : Nat) (v : Value) (K : List RawE) : Prop := OwnF w base 26 9 RawE.cells v K
theorem Tryd.infoExpr8 : (Tryd.prog.info? 26).map (fun i => (i.zero, i.size, i.bytes)) = some (some (.agg rawZ.cells.toArray), 9, 104) := by kernel_rfl

/-- Operands as raw cells. -/
theorem exl_raw {w : World} {P : Nat → Prop} {q : Option Addr} {l : List Ex} (h : ExLP w P q 0 l) : ∃ K : List RawE, K.length = l.length ∧ ArrA 0 w.heap.size q 9 K (fun g o r => ∀ (k : Nat) u, r.cells[k]? = some u → w.cell? ⟨g, o + k, none⟩ = some u) ∧ ∀ (j : Nat) (r : RawE) (x : Ex), K[j]? = some r → l[j]? = some x → ExMP w P x r.cells := by
  have each : ∀ i, i < l.length → ∃ r : RawE, ∀ x, l[i]? = some x → ExMP w P x r.cells ∧ ∃ g off, q = some ⟨g, off, none⟩ ∧ g < w.heap.size ∧ ∀ (k : Nat) u, r.cells[k]? = some u → w.cell? ⟨g, off + i * 9 + k, none⟩ = some u := by
    intro i hi
    obtain ⟨g, off, cs, e, hg, _, hx, hc⟩ := ExLP.at_ h (List.getElem?_eq_getElem hi)
    obtain ⟨r, rfl⟩ := hx.raw
    refine ⟨r, fun x hx' => ?_⟩
    rw [List.getElem?_eq_getElem hi] at hx'
    cases hx'
    rw [Nat.zero_add] at hc
    exact ⟨hx, g, off, e, hg, hc⟩
  obtain ⟨f, hf⟩ := choose_lt each
  refine ⟨(List.range l.length).map f, by simp, fun i hi => ?_, fun i r x hr hx => ?_⟩
  · have hi' : i < l.length := by simpa using hi
    obtain ⟨_, g, off, hq, hg, _⟩ := hf i hi' _ (List.getElem?_eq_getElem hi')
    refine ⟨g, off, hq, Nat.zero_le _, hg, fun j r hr k u hu => ?_⟩
    have hj : j < l.length := by have := (List.getElem?_eq_some_iff.1 hr).1; simpa using this
    have hr' : f j = r := by simpa [hj] using hr
    obtain ⟨_, g', off', hq', _, h5⟩ := hf j hj _ (List.getElem?_eq_getElem hj)
    rw [hq] at hq'
    cases hq'
    rw [hr'] at h5
    exact h5 k u hu
  · have hi := (List.getElem?_eq_some_iff.1 hx).1
    have hr' : f i = r := by simpa [hi] using hr
    rw [← hr']
    exact (hf i hi x hx).1

theorem OwnF.made8 {α : Type} {cells : α → List Value} {sz : Nat} (w : World) (base : Nat) (E : TypeId) (h : base ≤ w.heap.size) : OwnF (w.alloc (.cells #[] E)) base E sz cells (.slice (some ⟨w.heap.size, 0, none⟩) 0 0) [] :=
  ⟨by simp, .inr ⟨w.heap.size, 0, #[], rfl, h, heap_alloc_new w _, Nat.le_refl _, Nat.zero_le _, by simp, by simp⟩⟩
theorem nil_none8 (c : Nat) (w : World) : (binOp .eql 24 (.slice none 0 c) (.slice none 0 0)).run Tryd.prog w = .ok (.bool true) w := by kernel_rfl
theorem nil_some8 (a : Addr) (n c : Nat) (w : World) : (binOp .eql 24 (.slice (some a) n c) (.slice none 0 0)).run Tryd.prog w = .ok (.bool false) w := by kernel_rfl

set_option maxHeartbeats 1000000 in
theorem cloneE_any (K : List RawE) (p : Option Addr) (c : Nat) (w : World) (hl : K.length * 104 ≤ 140737488355328) (hR : ArrA 0 w.heap.size p 9 K (fun g o r => ∀ (k : Nat) u, r.cells[k]? = some u → w.cell? ⟨g, o + k, none⟩ = some u)) :
    Calls Tryd.prog 53 #[.slice p K.length c] w fun e w' => (∃ v, e = .returned v ∧ OwnE w' w.heap.size v K) ∧ Below w.heap.size w w' := by
  cases p with
  | none =>
    have h0 : K = [] := by
      cases K with
      | nil => rfl
      | cons a l => obtain ⟨g, off, h, _⟩ := hR 0 (by simp); cases h
    subst h0
    have hq := nil_none8 c w
    go_enter Tryd.func53, Tryd.ntmps53
    go_wp2
    go_ret
    exact ⟨⟨_, rfl, OwnF.nil _ _ _⟩, Below.refl _ _⟩
  | some ad =>
    have HR := Lib.hid hR
    obtain ⟨n, hn⟩ : ∃ n, n = K.length := ⟨_, rfl⟩
    rw [← hn] at hl ⊢
    have HN := Lib.hid hn
    have hq := nil_some8 ad n c w
    clear hR hn
    go_enter Tryd.func53, Tryd.ntmps53
    go_wp2_with (at_builtin; go_must (refine wp_append_flat rfl _ _ 24 26 rfl Tryd.underlying24 _ 104 Tryd.infoExpr8 rfl (by omega) RawE.cells_len RawE.cells_one w.heap.size _ [] rfl (OwnF.made8 _ _ _ (by first | exact Nat.le_refl _ | (simp; done) | (simp; omega))) _ n _ K HN.out rfl 0 w.heap.size ?kr ?ka ?kb ?kc ?_))
    case kr =>
      intro i hi
      obtain ⟨g, off, e, h1, h2, h3⟩ := HR.out i hi
      exact ⟨g, off, e, h1, h2, fun j r hr k u hu => ((ext_alloc (ext_refl w) _).cell (p := ⟨g, _, none⟩) h2).trans (h3 j r hr k u hu)⟩
    case ka => rw [← HN.out]; unfold maxLen; simp; omega
    case kb => rw [← HN.out]; simp; omega
    case kc => simp
    intro v2 w2 O2 b2 o2
    have O2 := Lib.hid (show OwnE w2 w.heap.size v2 K from O2)
    have hB : Below w.heap.size w w2 := (show Below w.heap.size w _ from by (repeat (first | exact ext_refl _ | assumption | (refine ext_alloc ?_ _) | (refine ext_drewN ?_ _) | refine ext_drew ?_ | (refine ext_set (by first | (simp; done) | (simp; omega)) _ ?_) | (refine ext_trans ?_ (by assumption))))).trans b2
    have H2 := Lib.hid hB
    clear hB b2 o2
    go_wp2
    refine bodyPost_ret (v := v2) (by simp [results, Tryd.results53, go_sem]) rfl ⟨⟨_, rfl, O2.out⟩, H2.out⟩

end Go.Proofs.YtiidfghdmaipoaaDoor
