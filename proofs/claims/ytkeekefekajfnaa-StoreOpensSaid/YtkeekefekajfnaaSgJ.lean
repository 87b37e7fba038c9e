/- Lists in memory of a call's own: an append where the order is drawn; a cell that is written anew. Tables and rows as they are held. -/
import Derived.Test.YtkeekefekajfnaaSgH
import Derived.Maps.AppendAt
import Derived.RegionTactic
import Derived.Deep.Slices
namespace Go.Proofs.Ytkeekefekajfnaa
open Go.RowKit Go.Deep
set_option maxRecDepth 100000

section
variable {α : Type} {cells : α → List Value} {sz : Nat}

/-- An append to a slice of the call's own, out of any source: as a run. -/
theorem run_append_flat (w : World) (T E ty : TypeId) (hT : Try.prog.underlying T = some (.slice E)) (z : Value) (bytes : Nat) (hI : (Try.prog.info? E).map (fun i => (i.zero, i.size, i.bytes)) = some (some z, sz, bytes)) (hzs : z.cells.size = sz) (h0 : 0 < sz)
    (hcl : ∀ x : α, (cells x).length = sz) (h1 : ∀ (x : α) (u : Value), u ∈ cells x → u.oneCell' = true)
    (base : Nat) (v : Value) (l : List α) (hown : OwnF w base E sz cells v l) (p : Option Addr) (n c : Nat) (m : List α) (hn : n = m.length)
    (lo hi : Nat) (hR : ArrA lo hi p sz m (fun g o x => ∀ (k : Nat) u, (cells x)[k]? = some u → w.cell? ⟨g, o + k, none⟩ = some u)) (hlen : l.length + m.length ≤ maxLen) (hbytes : (l.length + m.length) * bytes ≤ 140737488355328) (hbase : base ≤ w.heap.size) :
    ∃ v' w', (Builtin.append_ #[T, T] ty #[v, .slice p n c]).run Try.prog w = .ok v' w' ∧ OwnF w' base E sz cells v' (l ++ m) ∧ Below base w w' ∧ Out (fun k => v.ownBlock = some k) w w' ∧ (v'.ownBlock = v.ownBlock ∨ v'.ownBlock = some w.heap.size) := by
  subst hn
  obtain ⟨i0, hi0, hz0, hz1, hz2⟩ := info_parts hI
  have go : ∀ ad : Addr, p = some ad → (∀ (j : Nat) (u : Value), (m.flatMap cells)[j]? = some u → w.cell? (ad.add j) = some u) → ∃ v' w', (Builtin.append_ #[T, T] ty #[v, .slice p m.length c]).run Try.prog w = .ok v' w' ∧ OwnF w' base E sz cells v' (l ++ m) ∧ Below base w w' ∧ Out (fun k => v.ownBlock = some k) w w' ∧ (v'.ownBlock = v.ownBlock ∨ v'.ownBlock = some w.heap.size) := by
    intro ad hp hcells
    subst hp
    obtain ⟨v', w', hr, h2, h3, _, h5⟩ := run_append_own_at (P := Try.prog) w base T ty E i0 z sz bytes hT hi0 hz0 hz1 hz2 hzs h0 v l.length _ hown ad m.length c (m.flatMap cells) (flat_len hcl m) hcells (fun u hu => by
      obtain ⟨x, _, hx⟩ := List.mem_flatMap.1 hu
      exact h1 x u hx) hlen hbytes hbase
    refine ⟨v', w', hr, ?_, (Below.refl _ _).grown h3 hbase fun k hk => (hown.lt _ hk).1, Out.grown h3 fun k hk => hk, h5⟩
    unfold OwnF
    rw [List.length_append, List.flatMap_append]
    exact h2
  by_cases hm : 0 < m.length
  · obtain ⟨b, off, rfl, _, _, hc⟩ := hR 0 hm
    refine go _ rfl fun j u hj => ?_
    obtain ⟨y, hy, hk⟩ := flat_get hcl h0 m j u hj
    have := hc (j / sz) y hy (j % sz) u hk
    have e : off + j / sz * sz + j % sz = off + j := by rw [Nat.add_assoc, Nat.div_add_mod']
    rw [e] at this
    unfold Addr.add
    split
    · rename_i hj0; subst hj0; exact this
    · exact this
  · obtain rfl : m = [] := List.length_eq_zero_iff.1 (by omega)
    cases p with
    | none =>
      obtain ⟨q, cap, rfl, hcap, _, _⟩ := hown.arr hcl
      have hr := run_append_nothing (P := Try.prog) w T T ty E i0 hT hi0 q l.length cap hcap (.slice none 0 c) ⟨.inl ⟨_, hT⟩, fun _ => rfl, run_firstCells_none w _ 0 0 c, run_firstCells_none w.drew _ 0 0 c, by simp, by simp⟩
      exact ⟨_, _, hr, by simpa using hown, Below.refl _ _, Out.refl _ _, .inl rfl⟩
    | some ad => exact go ad rfl (fun j u hj => by simp at hj)

/-- .. at a step of a region that draws its order. -/
theorem step_append_flat {w : World} {ops : Array Oper} {o : Oper} {a : Act} {K : Act → World → Prop} {Q : Exit → Act → World → Prop} {R : Prop} (hgd : o.guard = none) (s x : Operand) (T E : TypeId) (ho : o.op = .call { callee := .builtin .append, args := #[s, x], argTypes := #[T, T] })
    (hT : Try.prog.underlying T = some (.slice E)) (z : Value) (bytes : Nat) (hI : (Try.prog.info? E).map (fun i => (i.zero, i.size, i.bytes)) = some (some z, sz, bytes)) (hzs : z.cells.size = sz) (h0 : 0 < sz)
    (hcl : ∀ x : α, (cells x).length = sz) (h1 : ∀ (x : α) (u : Value), u ∈ cells x → u.oneCell' = true)
    (base : Nat) (v : Value) (l : List α) (hs : a.eval s = v) (hown : OwnF w base E sz cells v l) (p : Option Addr) (n c : Nat) (m : List α) (hn : n = m.length) (hx : a.eval x = .slice p n c)
    (lo hi : Nat) (hR : ArrA lo hi p sz m (fun g o x => ∀ (k : Nat) u, (cells x)[k]? = some u → w.cell? ⟨g, o + k, none⟩ = some u)) (hlen : l.length + m.length ≤ maxLen) (hbytes : (l.length + m.length) * bytes ≤ 140737488355328) (hbase : base ≤ w.heap.size)
    (h : ∀ q c' w', OwnF w' base E sz cells (.slice q (l ++ m).length c') (l ++ m) → Below base w w' → Out (fun k => v.ownBlock = some k) w w' → ((Value.slice q (l ++ m).length c').ownBlock = v.ownBlock ∨ (Value.slice q (l ++ m).length c').ownBlock = some w.heap.size) → K (a.put o.dst (.slice q (l ++ m).length c')) w') :
    if Region.wanted o (yielded ops a.tmps) = true then Oper.wp Try.prog o a w K Q else R := by
  have hw : Region.wanted o (yielded ops a.tmps) = true := by simp [Region.wanted, hgd]
  rw [if_pos hw]
  obtain ⟨v', w', hr, h2, h3, h4, h5⟩ := run_append_flat w T E o.type hT z bytes hI hzs h0 hcl h1 base v l hown p n c m hn lo hi hR hlen hbytes hbase
  obtain ⟨q, c', rfl, _⟩ := h2.arr hcl
  unfold Oper.wp execOp
  simp only [ho, resolve, invoke, builtin, Sem.run_bind, Sem.run_pure, Result.andThen_ok, List.map_toArray, List.map_cons, List.map_nil, hs, hx, hr]
  exact h q c' w' h2 h3 h4 h5

theorem flat_set (hcl : ∀ x, (cells x).length = sz) : ∀ (l : List α) (j k : Nat) (x x' : α) (u : Value), l[j]? = some x → k < sz → cells x' = (cells x).set k u → (l.set j x').flatMap cells = (l.flatMap cells).set (j * sz + k) u
  | [], j, k, x, x', u, h, _, _ => by simp at h
  | y :: l, 0, k, x, x', u, h, hk, hx => by
    simp at h
    subst h
    rw [List.set_cons_zero, List.flatMap_cons, List.flatMap_cons, hx, Nat.zero_mul, Nat.zero_add, List.set_append_left _ _ (by rw [hcl]; exact hk)]
  | y :: l, j + 1, k, x, x', u, h, hk, hx => by
    rw [List.set_cons_succ, List.flatMap_cons, List.flatMap_cons, flat_set hcl l j k x x' u (by simpa using h) hk hx, List.set_append_right _ _ (by rw [hcl, Nat.add_mul]; omega), hcl]
    congr 2
    rw [Nat.add_mul]
    omega

/-- A cell of a slice of the call's own, written anew. -/
theorem OwnF.setc {w : World} {b : Nat} {E : TypeId} {g n c : Nat} {l : List α} (hcl : ∀ x, (cells x).length = sz) (h : OwnF w b E sz cells (.slice (some ⟨g, 0, none⟩) n c) l) {j k : Nat} {x x' : α} {u : Value} (hj : l[j]? = some x) (hk : k < sz) (hx : cells x' = (cells x).set k u) :
    OwnF (w.setCell ⟨g, j * sz + k, none⟩ u) b E sz cells (.slice (some ⟨g, 0, none⟩) n c) (l.set j x') := by
  obtain ⟨h1, h2⟩ := h
  have hf := flat_set hcl l j k x x' u hj hk hx
  have hjl := (List.getElem?_eq_some_iff.1 hj).1
  refine ⟨by rw [flat_len hcl], ?_⟩
  rcases h2 with ⟨h2, _⟩ | ⟨g', cap, cur, hv, hg, hh, hn, hm, hc, ht⟩
  · cases h2
  · simp only [Value.slice.injEq, Option.some.injEq, Addr.mk.injEq, and_true] at hv
    obtain ⟨rfl, rfl, rfl⟩ := hv
    rw [List.length_set]
    refine .inr ⟨g, c, cur.setIfInBounds (j * sz + k) u, rfl, hg, ?_, hn, hm, by simpa using hc, ?_⟩
    · rw [setCell_eq_setRow w g _ cur _ _ _ hh]
      exact setRow_heap w g _ _ _ _ hh
    · rw [hf, ← ht, Array.toList_setIfInBounds, List.take_set]
theorem OwnF.cellAt {w : World} {b : Nat} {E : TypeId} {g n c : Nat} {l : List α} (hcl : ∀ x, (cells x).length = sz) (h : OwnF w b E sz cells (.slice (some ⟨g, 0, none⟩) n c) l) {j k : Nat} {x : α} {u : Value} (hj : l[j]? = some x) (hk : (cells x)[k]? = some u) :
    w.cell? ⟨g, j * sz + k, none⟩ = some u ∧ ∀ o, w.frozen? ⟨g, o, none⟩ = false := by
  obtain ⟨q, c', e, _, _, hf, ha⟩ := h.arr hcl
  simp only [Value.slice.injEq] at e
  obtain ⟨rfl, -, -⟩ := e
  obtain ⟨g', off, e, _, _, hc⟩ := ha j (List.getElem?_eq_some_iff.1 hj).1
  obtain ⟨rfl, rfl⟩ : g = g' ∧ 0 = off := by simpa using e
  refine ⟨?_, (hf g 0 rfl).2.2.2⟩
  have := hc j x hj k u hk
  rwa [Nat.zero_add] at this
/-- A slice of the call's own that is not empty, at its address. -/
theorem OwnF.at_ {w : World} {b : Nat} {E : TypeId} {q : Option Addr} {n c : Nat} {l : List α} (h : OwnF w b E sz cells (.slice q n c) l) (h0 : 0 < l.length) : ∃ g, q = some ⟨g, 0, none⟩ ∧ n = l.length ∧ b ≤ g ∧ g < w.heap.size := by
  have hlt := h.lt
  obtain ⟨_, h2⟩ := h
  rcases h2 with ⟨_, h2⟩ | ⟨g', cap, cur, hv, hg, hh, hn, _⟩
  · omega
  · simp only [Value.slice.injEq] at hv
    obtain ⟨rfl, rfl, rfl⟩ := hv
    exact ⟨g', rfl, rfl, hg, (hlt g' rfl).2⟩
end

instance : Inhabited RawTab := ⟨⟨⟨#[]⟩, none, 0, 0, none, 0, 0⟩⟩
instance : Inhabited Raw := ⟨(none, 0, 0)⟩

/-- A table as it is held, and what it holds. -/
structure TabRaw (w : World) (lo hi : Nat) (r : RawTab) (t : Tab) : Prop where
  nm : r.nm = t.nm ∧ t.nm.size ≤ 9223372036854775807
  nc : r.nc = t.cols.length ∧ t.cols.length ≤ r.cc ∧ r.cc ≤ 9223372036854775807
  cols : ColsA w lo hi r.qc t.cols
  nr : r.nr = t.rows.length ∧ t.rows.length ≤ r.cr ∧ r.cr ≤ 9223372036854775807
  rows : RowsA w lo hi r.qr t.rows
theorem tabCell_one (r : RawTab) (u : Value) (h : u ∈ tabCell r) : u.oneCell' = true := by simp at h; rcases h with rfl | rfl | rfl <;> rfl
theorem range_get {α : Type} {n : Nat} {f : Nat → α} {j : Nat} {x : α} (h : ((List.range n).map f)[j]? = some x) : j < n ∧ x = f j := by
  have hl := (List.getElem?_eq_some_iff.1 h).1
  rw [List.length_map, List.length_range] at hl
  refine ⟨hl, ?_⟩
  rw [List.getElem?_map, List.getElem?_range hl] at h
  simpa using h.symm
theorem TabsA.raw {w : World} {lo hi : Nat} {q : Option Addr} {l : List Tab} (h : TabsA w lo hi q l) : ∃ K : List RawTab, K.length = l.length ∧ ArrA lo hi q 3 K (fun g o x => ∀ (k : Nat) u, (tabCell x)[k]? = some u → w.cell? ⟨g, o + k, none⟩ = some u) ∧ ∀ (j : Nat) (r : RawTab) (t : Tab), K[j]? = some r → l[j]? = some t → TabRaw w lo hi r t := by
  have each : ∀ i, i < l.length → ∃ r : RawTab, (∀ t, l[i]? = some t → TabRaw w lo hi r t) ∧ ∀ g off, q = some ⟨g, off, none⟩ → ∀ (k : Nat) u, (tabCell r)[k]? = some u → w.cell? ⟨g, off + i * 3 + k, none⟩ = some u := fun i hi => by
    obtain ⟨g, off, rfl, _, _, hc⟩ := h i hi
    obtain ⟨⟨a0, a1⟩, ⟨p, c, b0, b1, b2, b3⟩, p', c', d0, d1, d2, d3⟩ := hc i _ (List.getElem?_eq_getElem hi)
    refine ⟨⟨l[i].nm, p, l[i].cols.length, c, p', l[i].rows.length, c'⟩, fun t ht => ?_, fun g' off' e k u hk => ?_⟩
    · rw [List.getElem?_eq_getElem hi] at ht
      cases ht
      exact ⟨⟨rfl, a1⟩, ⟨rfl, b1, b2⟩, b3, ⟨rfl, d1, d2⟩, d3⟩
    · obtain ⟨rfl, rfl⟩ : g = g' ∧ off = off' := by simpa using e
      match k, hk with
      | 0, hk => simp at hk; subst hk; exact a0
      | 1, hk => simp at hk; subst hk; exact b0
      | 2, hk => simp at hk; subst hk; exact d0
      | k + 3, hk => simp at hk
  obtain ⟨f, hf⟩ := choose_lt each
  refine ⟨(List.range l.length).map f, by simp, fun i hi => ?_, fun j r t hr ht => ?_⟩
  · rw [List.length_map, List.length_range] at hi
    obtain ⟨g, off, rfl, h1, h2, _⟩ := h i hi
    refine ⟨g, off, rfl, h1, h2, fun j x hx => ?_⟩
    obtain ⟨hj, rfl⟩ := range_get hx
    exact (hf j hj).2 g off rfl
  · obtain ⟨hj, rfl⟩ := range_get hr
    exact (hf j hj).1 t ht
theorem RowsA.raw {w : World} {lo hi : Nat} {q : Option Addr} {l : List (List Val)} (h : RowsA w lo hi q l) : ∃ K : List Raw, K.length = l.length ∧ ArrA lo hi q 1 K (fun g o x => ∀ (k : Nat) u, (rawCell x)[k]? = some u → w.cell? ⟨g, o + k, none⟩ = some u) ∧
    ∀ (j : Nat) (r : Raw) (x : List Val), K[j]? = some r → l[j]? = some x → r.2.1 = x.length ∧ x.length ≤ r.2.2 ∧ r.2.2 ≤ 9223372036854775807 ∧ ValsA w lo hi r.1 x := by
  have each : ∀ i, i < l.length → ∃ r : Raw, (∀ x, l[i]? = some x → r.2.1 = x.length ∧ x.length ≤ r.2.2 ∧ r.2.2 ≤ 9223372036854775807 ∧ ValsA w lo hi r.1 x) ∧ ∀ g off, q = some ⟨g, off, none⟩ → ∀ (k : Nat) u, (rawCell r)[k]? = some u → w.cell? ⟨g, off + i * 1 + k, none⟩ = some u := fun i hi => by
    obtain ⟨g, off, rfl, _, _, hc⟩ := h i hi
    obtain ⟨p, c, b0, b1, b2, b3⟩ := hc i _ (List.getElem?_eq_getElem hi)
    refine ⟨(p, l[i].length, c), fun t ht => ?_, fun g' off' e k u hk => ?_⟩
    · rw [List.getElem?_eq_getElem hi] at ht
      cases ht
      exact ⟨rfl, b1, b2, b3⟩
    · obtain ⟨rfl, rfl⟩ : g = g' ∧ off = off' := by simpa using e
      match k, hk with
      | 0, hk => simp at hk; subst hk; exact b0
      | k + 1, hk => simp at hk
  obtain ⟨f, hf⟩ := choose_lt each
  refine ⟨(List.range l.length).map f, by simp, fun i hi => ?_, fun j r t hr ht => ?_⟩
  · rw [List.length_map, List.length_range] at hi
    obtain ⟨g, off, rfl, h1, h2, _⟩ := h i hi
    refine ⟨g, off, rfl, h1, h2, fun j x hx => ?_⟩
    obtain ⟨hj, rfl⟩ := range_get hx
    exact (hf j hj).2 g off rfl
  · obtain ⟨hj, rfl⟩ := range_get hr
    exact (hf j hj).1 t ht

end Go.Proofs.Ytkeekefekajfnaa
