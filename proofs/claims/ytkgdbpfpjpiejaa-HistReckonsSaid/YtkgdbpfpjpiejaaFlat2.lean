/- Lists in memory of a call's own: an append where the order is drawn; a cell that is written anew. -/
import Derived.Test.YtkgdbpfpjpiejaaFlat
import Derived.Maps.AppendAt
import Derived.RegionTactic
import Derived.Deep.Slices
namespace Go.Proofs.Ytkgdbpfpjpiejaa
open Go.RowKit Go.Deep
set_option maxRecDepth 100000

section
variable {α : Type} {cells : α → List Value} {sz : Nat}

/-- An append to a slice of the call's own, out of any source: as a run. -/
theorem run_append_flat (w : World) (T E ty : TypeId) (hT : Try.prog.underlying T = some (.slice E)) (z : Value) (bytes : Nat) (hI : (Try.prog.info? E).map (fun i => (i.zero, i.size, i.bytes)) = some (some z, sz, bytes)) (hzs : z.cells.size = sz) (h0 : 0 < sz)
    (hcl : ∀ x : α, (cells x).length = sz) (h1 : ∀ (x : α) (u : Value), u ∈ cells x → u.oneCell' = true)
    (base : Nat) (v : Value) (l : List α) (hown : OwnF w base E sz cells v l) (p : Option Addr) (n c : Nat) (m : List α) (hn : n = m.length)
    (lo hi : Nat) (hR : ArrA lo hi p sz m (fun g o x => ∀ (k : Nat) u, (cells x)[k]? = some u → w.cell? ⟨g, o + k, none⟩ = some u)) (hlen : l.length + m.length ≤ maxLen) (hbytes : (l.length + m.length) * bytes ≤ 140737488355328) (hbase : base ≤ w.heap.size) :
    ∃ v' w', (Builtin.append_ #[T, T] ty #[v, .slice p n c]).run Try.prog w = .ok v' w' ∧ OwnF w' base E sz cells v' (l ++ m) ∧ Below base w w' ∧ Out (fun k => v.ownBlock = some k) w w' ∧ (v'.ownBlock = v.ownBlock ∨ v'.ownBlock = some w.heap.size) := by
  subst hn
  obtain ⟨i0, hi0, hz0, hz1, hz2⟩ := info_parts hI
  have go : ∀ ad : Addr, p = some ad → (∀ (j : Nat) (u : Value), (m.flatMap cells)[j]? = some u → w.cell? (ad.add j) = some u) → ∃ v' w', (Builtin.append_ #[T, T] ty #[v, .slice p m.length c]).run Try.prog w = .ok v' w' ∧ OwnF w' base E sz cells v' (l ++ m) ∧ Below base w w' ∧ Out (fun k => v.ownBlock = some k) w w' ∧ (v'.ownBlock = v.ownBlock ∨ v'.ownBlock = some w.heap.size) := by
    intro ad hp hcells
    subst hp
    obtain ⟨v', w', hr, h2, h3, _, h5⟩ := run_append_own_at (P := Try.prog) w base T ty E i0 z sz bytes hT hi0 hz0 hz1 hz2 hzs h0 v l.length _ hown ad m.length c (m.flatMap cells) (flat_len hcl m) hcells (fun u hu => by
      obtain ⟨x, _, hx⟩ := List.mem_flatMap.1 hu
      exact h1 x u hx) hlen hbytes hbase
    refine ⟨v', w', hr, ?_, (Below.refl _ _).grown h3 hbase fun k hk => (hown.lt _ hk).1, Out.grown h3 fun k hk => hk, h5⟩
    unfold OwnF
    rw [List.length_append, List.flatMap_append]
    exact h2
  by_cases hm : 0 < m.length
  · obtain ⟨b, off, rfl, _, _, hc⟩ := hR 0 hm
    refine go _ rfl fun j u hj => ?_
    obtain ⟨y, hy, hk⟩ := flat_get hcl h0 m j u hj
    have := hc (j / sz) y hy (j % sz) u hk
    have e : off + j / sz * sz + j % sz = off + j := by rw [Nat.add_assoc, Nat.div_add_mod']
    rw [e] at this
    unfold Addr.add
    split
    · rename_i hj0; subst hj0; exact this
    · exact this
  · obtain rfl : m = [] := List.length_eq_zero_iff.1 (by omega)
    cases p with
    | none =>
      obtain ⟨q, cap, rfl, hcap, _, _⟩ := hown.arr hcl
      have hr := run_append_nothing (P := Try.prog) w T T ty E i0 hT hi0 q l.length cap hcap (.slice none 0 c) ⟨.inl ⟨_, hT⟩, fun _ => rfl, run_firstCells_none w _ 0 0 c, run_firstCells_none w.drew _ 0 0 c, by simp, by simp⟩
      exact ⟨_, _, hr, by simpa using hown, Below.refl _ _, Out.refl _ _, .inl rfl⟩
    | some ad => exact go ad rfl (fun j u hj => by simp at hj)

/-- .. at a step of a region that draws its order. -/
theorem step_append_flat {w : World} {ops : Array Oper} {o : Oper} {a : Act} {K : Act → World → Prop} {Q : Exit → Act → World → Prop} {R : Prop} (hgd : o.guard = none) (s x : Operand) (T E : TypeId) (ho : o.op = .call { callee := .builtin .append, args := #[s, x], argTypes := #[T, T] })
    (hT : Try.prog.underlying T = some (.slice E)) (z : Value) (bytes : Nat) (hI : (Try.prog.info? E).map (fun i => (i.zero, i.size, i.bytes)) = some (some z, sz, bytes)) (hzs : z.cells.size = sz) (h0 : 0 < sz)
    (hcl : ∀ x : α, (cells x).length = sz) (h1 : ∀ (x : α) (u : Value), u ∈ cells x → u.oneCell' = true)
    (base : Nat) (v : Value) (l : List α) (hs : a.eval s = v) (hown : OwnF w base E sz cells v l) (p : Option Addr) (n c : Nat) (m : List α) (hn : n = m.length) (hx : a.eval x = .slice p n c)
    (lo hi : Nat) (hR : ArrA lo hi p sz m (fun g o x => ∀ (k : Nat) u, (cells x)[k]? = some u → w.cell? ⟨g, o + k, none⟩ = some u)) (hlen : l.length + m.length ≤ maxLen) (hbytes : (l.length + m.length) * bytes ≤ 140737488355328) (hbase : base ≤ w.heap.size)
    (h : ∀ q c' w', OwnF w' base E sz cells (.slice q (l ++ m).length c') (l ++ m) → Below base w w' → Out (fun k => v.ownBlock = some k) w w' → ((Value.slice q (l ++ m).length c').ownBlock = v.ownBlock ∨ (Value.slice q (l ++ m).length c').ownBlock = some w.heap.size) → K (a.put o.dst (.slice q (l ++ m).length c')) w') :
    if Region.wanted o (yielded ops a.tmps) = true then Oper.wp Try.prog o a w K Q else R := by
  have hw : Region.wanted o (yielded ops a.tmps) = true := by simp [Region.wanted, hgd]
  rw [if_pos hw]
  obtain ⟨v', w', hr, h2, h3, h4, h5⟩ := run_append_flat w T E o.type hT z bytes hI hzs h0 hcl h1 base v l hown p n c m hn lo hi hR hlen hbytes hbase
  obtain ⟨q, c', rfl, _⟩ := h2.arr hcl
  unfold Oper.wp execOp
  simp only [ho, resolve, invoke, builtin, Sem.run_bind, Sem.run_pure, Result.andThen_ok, List.map_toArray, List.map_cons, List.map_nil, hs, hx, hr]
  exact h q c' w' h2 h3 h4 h5

theorem flat_set (hcl : ∀ x, (cells x).length = sz) : ∀ (l : List α) (j k : Nat) (x x' : α) (u : Value), l[j]? = some x → k < sz → cells x' = (cells x).set k u → (l.set j x').flatMap cells = (l.flatMap cells).set (j * sz + k) u
  | [], j, k, x, x', u, h, _, _ => by simp at h
  | y :: l, 0, k, x, x', u, h, hk, hx => by
    simp at h
    subst h
    rw [List.set_cons_zero, List.flatMap_cons, List.flatMap_cons, hx, Nat.zero_mul, Nat.zero_add, List.set_append_left _ _ (by rw [hcl]; exact hk)]
  | y :: l, j + 1, k, x, x', u, h, hk, hx => by
    rw [List.set_cons_succ, List.flatMap_cons, List.flatMap_cons, flat_set hcl l j k x x' u (by simpa using h) hk hx, List.set_append_right _ _ (by rw [hcl, Nat.add_mul]; omega), hcl]
    congr 2
    rw [Nat.add_mul]
    omega

/-- A cell of a slice of the call's own, written anew. -/
theorem OwnF.setc {w : World} {b : Nat} {E : TypeId} {g n c : Nat} {l : List α} (hcl : ∀ x, (cells x).length = sz) (h : OwnF w b E sz cells (.slice (some ⟨g, 0, none⟩) n c) l) {j k : Nat} {x x' : α} {u : Value} (hj : l[j]? = some x) (hk : k < sz) (hx : cells x' = (cells x).set k u) :
    OwnF (w.setCell ⟨g, j * sz + k, none⟩ u) b E sz cells (.slice (some ⟨g, 0, none⟩) n c) (l.set j x') := by
  obtain ⟨h1, h2⟩ := h
  have hf := flat_set hcl l j k x x' u hj hk hx
  have hjl := (List.getElem?_eq_some_iff.1 hj).1
  refine ⟨by rw [flat_len hcl], ?_⟩
  rcases h2 with ⟨h2, _⟩ | ⟨g', cap, cur, hv, hg, hh, hn, hm, hc, ht⟩
  · cases h2
  · simp only [Value.slice.injEq, Option.some.injEq, Addr.mk.injEq, and_true] at hv
    obtain ⟨rfl, rfl, rfl⟩ := hv
    rw [List.length_set]
    refine .inr ⟨g, c, cur.setIfInBounds (j * sz + k) u, rfl, hg, ?_, hn, hm, by simpa using hc, ?_⟩
    · rw [setCell_eq_setRow w g _ cur _ _ _ hh]
      exact setRow_heap w g _ _ _ _ hh
    · rw [hf, ← ht, Array.toList_setIfInBounds, List.take_set]
theorem OwnF.cellAt {w : World} {b : Nat} {E : TypeId} {g n c : Nat} {l : List α} (hcl : ∀ x, (cells x).length = sz) (h : OwnF w b E sz cells (.slice (some ⟨g, 0, none⟩) n c) l) {j k : Nat} {x : α} {u : Value} (hj : l[j]? = some x) (hk : (cells x)[k]? = some u) :
    w.cell? ⟨g, j * sz + k, none⟩ = some u ∧ ∀ o, w.frozen? ⟨g, o, none⟩ = false := by
  obtain ⟨q, c', e, _, _, hf, ha⟩ := h.arr hcl
  simp only [Value.slice.injEq] at e
  obtain ⟨rfl, -, -⟩ := e
  obtain ⟨g', off, e, _, _, hc⟩ := ha j (List.getElem?_eq_some_iff.1 hj).1
  obtain ⟨rfl, rfl⟩ : g = g' ∧ 0 = off := by simpa using e
  refine ⟨?_, (hf g 0 rfl).2.2.2⟩
  have := hc j x hj k u hk
  rwa [Nat.zero_add] at this
/-- A slice of the call's own that is not empty, at its address. -/
theorem OwnF.at_ {w : World} {b : Nat} {E : TypeId} {q : Option Addr} {n c : Nat} {l : List α} (h : OwnF w b E sz cells (.slice q n c) l) (h0 : 0 < l.length) : ∃ g, q = some ⟨g, 0, none⟩ ∧ n = l.length ∧ b ≤ g ∧ g < w.heap.size := by
  have hlt := h.lt
  obtain ⟨_, h2⟩ := h
  rcases h2 with ⟨_, h2⟩ | ⟨g', cap, cur, hv, hg, hh, hn, _⟩
  · omega
  · simp only [Value.slice.injEq] at hv
    obtain ⟨rfl, rfl, rfl⟩ := hv
    exact ⟨g', rfl, rfl, hg, (hlt g' rfl).2⟩
end

/-- Two things of different element types lie in different blocks. -/
theorem OwnF.apart {α β : Type} {ca : α → List Value} {cb : β → List Value} {sa sb : Nat} {w : World} {b b' : Nat} {E E' : TypeId} {v v' : Value} {l : List α} {l' : List β} (h : OwnF w b E sa ca v l) (h' : OwnF w b' E' sb cb v' l') (hE : E ≠ E') (k : Nat) (hk : v.ownBlock = some k) : v'.ownBlock ≠ some k := by
  obtain ⟨_, h⟩ := h
  obtain ⟨_, h'⟩ := h'
  rcases h with ⟨rfl, _⟩ | ⟨g, cap, cur, rfl, _, hg, _⟩
  · cases hk
  · rcases h' with ⟨rfl, _⟩ | ⟨g', cap', cur', rfl, _, hg', _⟩
    · exact fun e => by cases e
    · intro e
      have e1 : g = k := by simpa [Value.ownBlock] using hk
      have e2 : g' = k := by simpa [Value.ownBlock] using e
      rw [e1] at hg
      rw [e2, hg] at hg'
      have : E = E' := by injection hg' with h; injection h
      exact hE this

/-- A block of its own, whole. -/
theorem OwnF.whole {α : Type} {cells : α → List Value} {sz : Nat} (hcl : ∀ x, (cells x).length = sz) {w : World} {base : Nat} {E : TypeId} {g : Nat} {cur : Array Value} {l : List α} (h : w.heap[g]? = some (.cells cur E (0, 0))) (hb : base ≤ g) (hc : cur.toList = l.flatMap cells) (hm : l.length ≤ maxLen) : OwnF w base E sz cells (.slice (some ⟨g, 0, none⟩) l.length l.length) l := by
  have hs : cur.size = l.length * sz := by rw [← Array.length_toList, hc, flat_len hcl]
  exact ⟨flat_len hcl l, .inr ⟨g, l.length, cur, rfl, hb, h, Nat.le_refl _, hm, hs, by rw [hc, List.take_of_length_le (by rw [flat_len hcl]; exact Nat.le_refl _)]⟩⟩

/-- A slice as it is held. -/
abbrev Raw := Option Addr × Nat × Nat
abbrev rawCell (r : Raw) : List Value := [.slice r.1 r.2.1 r.2.2]
theorem rawCell_len (r : Raw) : (rawCell r).length = 1 := rfl
theorem rawCell_one (r : Raw) (u : Value) (h : u ∈ rawCell r) : u.oneCell' = true := by simp at h; rw [h]; rfl

/-- A slice of slices, each of the call's own. -/
structure Own2 {α : Type} (w : World) (base : Nat) (T E sz : Nat) (cells : α → List Value) (v : Value) (L : List (List α)) : Prop where
  outer : ∃ K : List Raw, OwnF w base T 1 rawCell v K ∧ K.length = L.length ∧ ∀ (j : Nat) (r : Raw) (l : List α), K[j]? = some r → L[j]? = some l → r.2.1 = l.length ∧ OwnF w base E sz cells (.slice r.1 r.2.1 r.2.2) l
theorem Own2.nil {α : Type} (w : World) (base T E sz : Nat) (cells : α → List Value) (v : Value) (h : OwnF w base T 1 rawCell v []) : Own2 w base T E sz cells v [] := ⟨[], h, rfl, fun j r l h => by simp at h⟩
theorem Own2.later {α : Type} {w w' : World} {base T E sz : Nat} {cells : α → List Value} {v : Value} {L : List (List α)} (h : Own2 w base T E sz cells v L) (hb : Below w.heap.size w w') : Own2 w' base T E sz cells v L := by
  obtain ⟨K, h1, h2, h3⟩ := h
  exact ⟨K, h1.later hb, h2, fun j r l hr hl => ⟨(h3 j r l hr hl).1, (h3 j r l hr hl).2.later hb⟩⟩
/-- One more, appended. -/
theorem Own2.push {α : Type} {w w' : World} {base T E sz : Nat} {cells : α → List Value} {v v' : Value} {L : List (List α)} {K : List Raw} {q : Option Addr} {n c : Nat} {l : List α} (hT : T ≠ E) (h1 : OwnF w base T 1 rawCell v K) (h2 : K.length = L.length)
    (h3 : ∀ (j : Nat) (r : Raw) (l : List α), K[j]? = some r → L[j]? = some l → r.2.1 = l.length ∧ OwnF w base E sz cells (.slice r.1 r.2.1 r.2.2) l) (hn : OwnF w base E sz cells (.slice q n c) l) (hnl : n = l.length)
    (h' : OwnF w' base T 1 rawCell v' (K ++ [(q, n, c)])) (o : Out (fun k => v.ownBlock = some k) w w') : Own2 w' base T E sz cells v' (L ++ [l]) := by
  refine ⟨_, h', by simp [h2], fun j r x hr hx => ?_⟩
  by_cases hj : j < K.length
  · rw [List.getElem?_append_left hj] at hr
    rw [List.getElem?_append_left (by omega)] at hx
    obtain ⟨e, hk⟩ := h3 j r x hr hx
    exact ⟨e, hk.kept o fun k hk' => h1.apart hk hT k hk'⟩
  · have hjk : j = K.length := by
      have := (List.getElem?_eq_some_iff.1 hr).1
      simp at this
      omega
    rw [hjk, List.getElem?_append_right (Nat.le_refl _), Nat.sub_self] at hr
    rw [hjk, h2, List.getElem?_append_right (Nat.le_refl _), Nat.sub_self] at hx
    simp at hr hx
    subst hr hx
    exact ⟨hnl, hn.kept o fun k hk' => h1.apart hn hT k hk'⟩

end Go.Proofs.Ytkgdbpfpjpiejaa
