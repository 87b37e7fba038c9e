/- A part of the proof. -/
import Derived.Test.YtklgoajgchfmeaaDoorKb
import Derived.Deep.Upon
import Derived.Maps.AppendAt
import Derived.RegionTactic
import Derived.Deep.Slices
import Derived.Test.YtklgoajgchfmeaaDoorKd
import Derived.Deep.RegionHeld3
set_option linter.unusedVariables false
set_option linter.unusedSimpArgs false
namespace Go.Proofs.YtklgoajgchfmeaaDoor
open Go.RowKit
section
variable {α : Type} {cells : α → List Value} {sz : Nat}
theorem flat_len (hcl : ∀ x, (cells x).length = sz) (l : List α) : (l.flatMap cells).length = l.length * sz := by
  induction l with
  | nil => simp
  | cons a l ih => rw [List.flatMap_cons, List.length_append, hcl, ih, List.length_cons, Nat.add_mul]; omega
theorem flat_get (hcl : ∀ x, (cells x).length = sz) (h0 : 0 < sz) : ∀ (l : List α) (j : Nat) (u : Value), (l.flatMap cells)[j]? = some u → ∃ x, l[j / sz]? = some x ∧ (cells x)[j % sz]? = some u
  | [], j, u, h => by simp at h
  | a :: l, j, u, h => by
    rw [List.flatMap_cons] at h
    by_cases hj : j < sz
    · rw [List.getElem?_append_left (by rw [hcl]; exact hj)] at h
      exact ⟨a, by rw [Nat.div_eq_of_lt hj]; rfl, by rw [Nat.mod_eq_of_lt hj]; exact h⟩
    · rw [List.getElem?_append_right (by rw [hcl]; omega), hcl] at h
      obtain ⟨x, h1, h2⟩ := flat_get hcl h0 l (j - sz) u h
      have hjs : j = (j - sz) + sz := by omega
      refine ⟨x, ?_, ?_⟩
      · rw [hjs, Nat.add_div_right _ h0]
        simpa using h1
      · rw [hjs, Nat.add_mod_right]
        exact h2
theorem flat_at (hcl : ∀ x, (cells x).length = sz) : ∀ (l : List α) (j k : Nat) (x : α) (u : Value), l[j]? = some x → (cells x)[k]? = some u → (l.flatMap cells)[j * sz + k]? = some u
  | [], j, k, x, u, h, _ => by simp at h
  | a :: l, 0, k, x, u, h, hk => by
    simp at h
    subst h
    have hl := (List.getElem?_eq_some_iff.1 hk).1
    rw [List.flatMap_cons, Nat.zero_mul, Nat.zero_add, List.getElem?_append_left hl]
    exact hk
  | a :: l, j + 1, k, x, u, h, hk => by
    rw [List.flatMap_cons, List.getElem?_append_right (by rw [hcl, Nat.add_mul]; omega), hcl, show (j + 1) * sz + k - sz = j * sz + k by rw [Nat.add_mul]; omega]
    exact flat_at hcl l j k x u (by simpa using h) hk
def OwnF (w : World) (base : Nat) (E : TypeId) (sz : Nat) (cells : α → List Value) (v : Value) (l : List α) : Prop := w.ownsRow base E sz v l.length (l.flatMap cells)
theorem OwnF.nil (w : World) (base : Nat) (E : TypeId) : OwnF w base E sz cells (.slice none 0 0) [] := World.ownsRow_nil _ _ _ _
theorem OwnF.kept {S : Nat → Prop} {w w' : World} {base : Nat} {E : TypeId} {v : Value} {l : List α} (h : OwnF w base E sz cells v l) (o : Out S w w') (hS : ∀ k, S k → v.ownBlock ≠ some k) : OwnF w' base E sz cells v l := by
  obtain ⟨h1, h2⟩ := h
  refine ⟨h1, ?_⟩
  rcases h2 with h2 | ⟨g, cap, cur, hv, hg, hh, r⟩
  · exact .inl h2
  · have hlt : g < w.heap.size := by
      rcases Nat.lt_or_ge g w.heap.size with h | h
      · exact h
      · rw [Array.getElem?_eq_none h] at hh; cases hh
    exact .inr ⟨g, cap, cur, hv, hg, by rw [o.block g hlt (fun k => hS g k (by rw [hv]; rfl))]; exact hh, r⟩
theorem OwnF.later {w w' : World} {base : Nat} {E : TypeId} {v : Value} {l : List α} (h : OwnF w base E sz cells v l) (hb : Below w.heap.size w w') : OwnF w' base E sz cells v l := h.kept (Out.of (S := fun _ => False) hb) (fun _ h => h.elim)
theorem OwnF.base_le {w : World} {b b' : Nat} {E : TypeId} {v : Value} {l : List α} (h : OwnF w b E sz cells v l) (hb : b' ≤ b) : OwnF w b' E sz cells v l := by
  obtain ⟨h1, h2⟩ := h
  refine ⟨h1, ?_⟩
  rcases h2 with h2 | ⟨g, cap, cur, hv, hg, r⟩
  · exact .inl h2
  · exact .inr ⟨g, cap, cur, hv, Nat.le_trans hb hg, r⟩
theorem OwnF.arr {w : World} {base : Nat} {E : TypeId} {v : Value} {l : List α} (hcl : ∀ x, (cells x).length = sz) (h : OwnF w base E sz cells v l) :
    ∃ q c, v = .slice q l.length c ∧ l.length ≤ c ∧ c ≤ 9223372036854775807 ∧ (∀ g off, q = some ⟨g, off, none⟩ → off = 0 ∧ base ≤ g ∧ g < w.heap.size ∧ ∀ o, w.frozen? ⟨g, o, none⟩ = false) ∧ ArrA base w.heap.size q sz l (fun g o x => ∀ (k : Nat) u, (cells x)[k]? = some u → w.cell? ⟨g, o + k, none⟩ = some u) := by
  obtain ⟨h1, h2⟩ := h
  rcases h2 with ⟨rfl, h0⟩ | ⟨g, cap, cur, rfl, hb, hg, hn, hm, hc, ht⟩
  · exact ⟨none, 0, by rw [h0], by omega, by omega, (fun g off h => by cases h), fun i hi => by omega⟩
  · have hlt : g < w.heap.size := by
      rcases Nat.lt_or_ge g w.heap.size with h | h
      · exact h
      · rw [Array.getElem?_eq_none h] at hg; cases hg
    refine ⟨some ⟨g, 0, none⟩, cap, rfl, hn, by unfold maxLen at hm; omega, fun g' off h => ?_, fun i hi => ⟨g, 0, rfl, hb, hlt, fun j x hj k u hu => ?_⟩⟩
    · obtain ⟨rfl, rfl⟩ : g = g' ∧ 0 = off := by simpa using h
      exact ⟨rfl, hb, hlt, fun o => by rw [Lib.frozen_of_heap hg]; try simp⟩
    · have hf := flat_at hcl l j k x u hj hu
      have hjl : j * sz + k < l.length * sz := by
        have := (List.getElem?_eq_some_iff.1 hf).1
        rwa [flat_len hcl] at this
      rw [Lib.cell_of_heap hg, Nat.zero_add]
      have := congrArg (fun l => l[j * sz + k]?) ht
      simp only [List.getElem?_take, if_pos hjl] at this
      rw [← Array.getElem?_toList, this]
      exact hf
theorem wp_append_flat {w : World} {ops : Array Oper} {rest : List Oper} {o : Oper} {a : Act} {Q : Exit → Act → World → Prop} (hgd : o.guard = none) (s x : Operand) (T E : TypeId) (ho : o.op = .call { callee := .builtin .append, args := #[s, x], argTypes := #[T, T] })
    (hT : Tryd.prog.underlying T = some (.slice E)) (z : Value) (bytes : Nat) (hI : (Tryd.prog.info? E).map (fun i => (i.zero, i.size, i.bytes)) = some (some z, sz, bytes)) (hzs : z.cells.size = sz) (h0 : 0 < sz)
    (hcl : ∀ x : α, (cells x).length = sz) (h1 : ∀ (x : α) (u : Value), u ∈ cells x → u.oneCell' = true)
    (base : Nat) (v : Value) (l : List α) (hs : a.eval s = v) (hown : OwnF w base E sz cells v l) (p : Option Addr) (n c : Nat) (m : List α) (hn : n = m.length) (hx : a.eval x = .slice p n c)
    (lo hi : Nat) (hR : ArrA lo hi p sz m (fun g o x => ∀ (k : Nat) u, (cells x)[k]? = some u → w.cell? ⟨g, o + k, none⟩ = some u)) (hlen : l.length + m.length ≤ maxLen) (hbytes : (l.length + m.length) * bytes ≤ 140737488355328) (hbase : base ≤ w.heap.size)
    (h : ∀ v' w', OwnF w' base E sz cells v' (l ++ m) → Below base w w' → Out (fun k => v.ownBlock = some k) w w' → wpList Tryd.prog ops Q rest (a.put o.dst v') w') : wpList Tryd.prog ops Q (o :: rest) a w := by
  subst hn
  obtain ⟨i0, hi0, hz0, hz1, hz2⟩ := info_parts hI
  have go : ∀ ad : Addr, p = some ad → (∀ (j : Nat) (u : Value), (m.flatMap cells)[j]? = some u → w.cell? (ad.add j) = some u) → wpList Tryd.prog ops Q (o :: rest) a w := by
    intro ad hp hcells
    subst hp
    refine wpList_append_own w hgd s x T ho base E i0 z sz bytes hT hi0 hz0 hz1 hz2 hzs h0 v l.length _ hs hown ad m.length c (m.flatMap cells) hx (flat_len hcl m) hcells ?_ hlen hbytes hbase ?_
    · intro u hu
      obtain ⟨x, _, hx⟩ := List.mem_flatMap.1 hu
      exact h1 x u hx
    · intro v' w' h2 h3 _
      refine h v' w' ?_ ((Below.refl _ _).grown h3 hbase fun k hk => (hown.lt _ hk).1) (Out.grown h3 fun k hk => hk)
      unfold OwnF
      rw [List.length_append, List.flatMap_append]
      exact h2
  by_cases hm : 0 < m.length
  · obtain ⟨b, off, rfl, _, _, hc⟩ := hR 0 hm
    refine go _ rfl fun j u hj => ?_
    obtain ⟨y, hy, hk⟩ := flat_get hcl h0 m j u hj
    have := hc (j / sz) y hy (j % sz) u hk
    have e : off + j / sz * sz + j % sz = off + j := by rw [Nat.add_assoc, Nat.div_add_mod']
    rw [e] at this
    unfold Addr.add
    split
    · rename_i hj0; subst hj0; exact this
    · exact this
  · obtain rfl : m = [] := List.length_eq_zero_iff.1 (by omega)
    cases p with
    | none =>
      obtain ⟨q, cap, rfl, hcap, _, _⟩ := hown.arr hcl
      have hr := run_append_nothing (P := Tryd.prog) w T T o.type E i0 hT hi0 q l.length cap hcap (.slice none 0 c) ⟨.inl ⟨_, hT⟩, fun _ => rfl, run_firstCells_none w _ 0 0 c, run_firstCells_none w.drew _ 0 0 c, by simp, by simp⟩
      refine wpList_plain hgd fun K hK => ?_
      unfold Oper.wp execOp
      simp only [ho, resolve, invoke, builtin, Sem.run_bind, Sem.run_pure, Result.andThen_ok, List.map_toArray, List.map_cons, List.map_nil, hs, hx, List.length_nil, hr]
      exact hK _ _ (h _ _ (by simpa using hown) (Below.refl _ _) (Out.refl _ _))
    | some ad => exact go ad rfl (fun j u hj => by simp at hj)
end
theorem one_block {W : World} {α : Type} {cells : α → List Value} {sz : Nat} (_ : ∀ x, (cells x).length = sz) (E : TypeId) (cs : Array Value) (x : α) (hx : cs.toList = cells x) (b : Nat) (hb : b = W.heap.size) :
    ArrA 0 (b + 1) (some ⟨b, 0, none⟩) sz [x] (fun g o r => ∀ (k : Nat) u, (cells r)[k]? = some u → (W.alloc (.cells cs E)).cell? ⟨g, o + k, none⟩ = some u) := fun j hj => ⟨b, 0, rfl, Nat.zero_le _, by omega, fun n r hr k u hk => by
  subst hb
  have hn : n = 0 := by have := (List.getElem?_eq_some_iff.1 hr).1; simp at this; omega
  subst hn
  simp only [List.getElem?_cons_zero, Option.some.injEq] at hr
  subst hr
  rw [Lib.cell_of_heap (heap_alloc_new W _)]
  rw [← hx] at hk
  simpa using hk⟩
section
variable {α : Type} {cells : α → List Value} {sz : Nat}
theorem run_append_flat (w : World) (T E ty : TypeId) (hT : Tryd.prog.underlying T = some (.slice E)) (z : Value) (bytes : Nat) (hI : (Tryd.prog.info? E).map (fun i => (i.zero, i.size, i.bytes)) = some (some z, sz, bytes)) (hzs : z.cells.size = sz) (h0 : 0 < sz)
    (hcl : ∀ x : α, (cells x).length = sz) (h1 : ∀ (x : α) (u : Value), u ∈ cells x → u.oneCell' = true)
    (base : Nat) (v : Value) (l : List α) (hown : OwnF w base E sz cells v l) (p : Option Addr) (n c : Nat) (m : List α) (hn : n = m.length)
    (lo hi : Nat) (hR : ArrA lo hi p sz m (fun g o x => ∀ (k : Nat) u, (cells x)[k]? = some u → w.cell? ⟨g, o + k, none⟩ = some u)) (hlen : l.length + m.length ≤ maxLen) (hbytes : (l.length + m.length) * bytes ≤ 140737488355328) (hbase : base ≤ w.heap.size) :
    ∃ v' w', (Builtin.append_ #[T, T] ty #[v, .slice p n c]).run Tryd.prog w = .ok v' w' ∧ OwnF w' base E sz cells v' (l ++ m) ∧ Below base w w' ∧ Out (fun k => v.ownBlock = some k) w w' ∧ (v'.ownBlock = v.ownBlock ∨ v'.ownBlock = some w.heap.size) := by
  subst hn
  obtain ⟨i0, hi0, hz0, hz1, hz2⟩ := info_parts hI
  have go : ∀ ad : Addr, p = some ad → (∀ (j : Nat) (u : Value), (m.flatMap cells)[j]? = some u → w.cell? (ad.add j) = some u) → ∃ v' w', (Builtin.append_ #[T, T] ty #[v, .slice p m.length c]).run Tryd.prog w = .ok v' w' ∧ OwnF w' base E sz cells v' (l ++ m) ∧ Below base w w' ∧ Out (fun k => v.ownBlock = some k) w w' ∧ (v'.ownBlock = v.ownBlock ∨ v'.ownBlock = some w.heap.size) := by
    intro ad hp hcells
    subst hp
    obtain ⟨v', w', hr, h2, h3, _, h5⟩ := run_append_own_at (P := Tryd.prog) w base T ty E i0 z sz bytes hT hi0 hz0 hz1 hz2 hzs h0 v l.length _ hown ad m.length c (m.flatMap cells) (flat_len hcl m) hcells (fun u hu => by
      obtain ⟨x, _, hx⟩ := List.mem_flatMap.1 hu
      exact h1 x u hx) hlen hbytes hbase
    refine ⟨v', w', hr, ?_, (Below.refl _ _).grown h3 hbase fun k hk => (hown.lt _ hk).1, Out.grown h3 fun k hk => hk, h5⟩
    unfold OwnF
    rw [List.length_append, List.flatMap_append]
    exact h2
  by_cases hm : 0 < m.length
  · obtain ⟨b, off, rfl, _, _, hc⟩ := hR 0 hm
    refine go _ rfl fun j u hj => ?_
    obtain ⟨y, hy, hk⟩ := flat_get hcl h0 m j u hj
    have := hc (j / sz) y hy (j % sz) u hk
    have e : off + j / sz * sz + j % sz = off + j := by rw [Nat.add_assoc, Nat.div_add_mod']
    rw [e] at this
    unfold Addr.add
    split
    · rename_i hj0; subst hj0; exact this
    · exact this
  · obtain rfl : m = [] := List.length_eq_zero_iff.1 (by omega)
    cases p with
    | none =>
      obtain ⟨q, cap, rfl, hcap, _, _⟩ := hown.arr hcl
      have hr := run_append_nothing (P := Tryd.prog) w T T ty E i0 hT hi0 q l.length cap hcap (.slice none 0 c) ⟨.inl ⟨_, hT⟩, fun _ => rfl, run_firstCells_none w _ 0 0 c, run_firstCells_none w.drew _ 0 0 c, by simp, by simp⟩
      exact ⟨_, _, hr, by simpa using hown, Below.refl _ _, Out.refl _ _, .inl rfl⟩
    | some ad => exact go ad rfl (fun j u hj => by simp at hj)
theorem flat_set (hcl : ∀ x, (cells x).length = sz) : ∀ (l : List α) (j k : Nat) (x x' : α) (u : Value), l[j]? = some x → k < sz → cells x' = (cells x).set k u → (l.set j x').flatMap cells = (l.flatMap cells).set (j * sz + k) u
  | [], j, k, x, x', u, h, _, _ => by simp at h
  | y :: l, 0, k, x, x', u, h, hk, hx => by
    simp at h
    subst h
    rw [List.set_cons_zero, List.flatMap_cons, List.flatMap_cons, hx, Nat.zero_mul, Nat.zero_add, List.set_append_left _ _ (by rw [hcl]; exact hk)]
  | y :: l, j + 1, k, x, x', u, h, hk, hx => by
    rw [List.set_cons_succ, List.flatMap_cons, List.flatMap_cons, flat_set hcl l j k x x' u (by simpa using h) hk hx, List.set_append_right _ _ (by rw [hcl, Nat.add_mul]; omega), hcl]
    congr 2
    rw [Nat.add_mul]
    omega
theorem OwnF.setc {w : World} {b : Nat} {E : TypeId} {g n c : Nat} {l : List α} (hcl : ∀ x, (cells x).length = sz) (h : OwnF w b E sz cells (.slice (some ⟨g, 0, none⟩) n c) l) {j k : Nat} {x x' : α} {u : Value} (hj : l[j]? = some x) (hk : k < sz) (hx : cells x' = (cells x).set k u) :
    OwnF (w.setCell ⟨g, j * sz + k, none⟩ u) b E sz cells (.slice (some ⟨g, 0, none⟩) n c) (l.set j x') := by
  obtain ⟨h1, h2⟩ := h
  have hf := flat_set hcl l j k x x' u hj hk hx
  have hjl := (List.getElem?_eq_some_iff.1 hj).1
  refine ⟨by rw [flat_len hcl], ?_⟩
  rcases h2 with ⟨h2, _⟩ | ⟨g', cap, cur, hv, hg, hh, hn, hm, hc, ht⟩
  · cases h2
  · simp only [Value.slice.injEq, Option.some.injEq, Addr.mk.injEq, and_true] at hv
    obtain ⟨rfl, rfl, rfl⟩ := hv
    rw [List.length_set]
    refine .inr ⟨g, c, cur.setIfInBounds (j * sz + k) u, rfl, hg, ?_, hn, hm, by simpa using hc, ?_⟩
    · rw [setCell_eq_setRow w g _ cur _ _ _ hh]
      exact setRow_heap w g _ _ _ _ hh
    · rw [hf, ← ht, Array.toList_setIfInBounds, List.take_set]
theorem OwnF.cellAt {w : World} {b : Nat} {E : TypeId} {g n c : Nat} {l : List α} (hcl : ∀ x, (cells x).length = sz) (h : OwnF w b E sz cells (.slice (some ⟨g, 0, none⟩) n c) l) {j k : Nat} {x : α} {u : Value} (hj : l[j]? = some x) (hk : (cells x)[k]? = some u) :
    w.cell? ⟨g, j * sz + k, none⟩ = some u ∧ ∀ o, w.frozen? ⟨g, o, none⟩ = false := by
  obtain ⟨q, c', e, _, _, hf, ha⟩ := h.arr hcl
  simp only [Value.slice.injEq] at e
  obtain ⟨rfl, -, -⟩ := e
  obtain ⟨g', off, e, _, _, hc⟩ := ha j (List.getElem?_eq_some_iff.1 hj).1
  obtain ⟨rfl, rfl⟩ : g = g' ∧ 0 = off := by simpa using e
  refine ⟨?_, (hf g 0 rfl).2.2.2⟩
  have := hc j x hj k u hk
  rwa [Nat.zero_add] at this
end
theorem ex_len9 {w : World} {x : Ex} {cs : List Value} (h : ExM w x cs) : cs.length = 9 := by
  obtain ⟨op, v, rel, col, n, s, l⟩ := x
  rw [ExM.iff] at h
  obtain ⟨-, q, c, rfl, -, -⟩ := h
  rfl
structure RawE where
  op : Int
  v : Val
  rel : Int
  col : Int
  n : Int
  s : ByteArray
  q : Option Addr
  len : Nat
  c : Nat
abbrev RawE.cells (r : RawE) : List Value := exCells r.op r.v r.rel r.col r.n r.s r.q r.len r.c
theorem RawE.cells_len (r : RawE) : r.cells.length = 9 := rfl
theorem RawE.cells_one (r : RawE) (u : Value) (h : u ∈ r.cells) : u.oneCell' = true := by
  simp only [RawE.cells, exCells, List.mem_cons, List.not_mem_nil, or_false] at h
  rcases h with rfl | rfl | rfl | rfl | rfl | rfl | rfl | rfl | rfl <;> rfl
theorem RawE.inj {r r' : RawE} (h : r.cells = r'.cells) : r = r' := by
  obtain ⟨op, ⟨vk, vn, vs⟩, rel, col, n, s, q, len, c⟩ := r
  obtain ⟨op', ⟨vk', vn', vs'⟩, rel', col', n', s', q', len', c'⟩ := r'
  simp [RawE.cells, exCells] at h
  obtain ⟨rfl, rfl, rfl, rfl, rfl, rfl, rfl, rfl, rfl, rfl, rfl⟩ := h
  rfl
def rawZ : RawE := ⟨0, zeroVal, 0, 0, 0, ⟨#[]⟩, none, 0, 0⟩
instance : Inhabited RawE := ⟨rawZ⟩
mutual
def ExMP (w : World) (P : Nat → Prop) : Ex → List Value → Prop
  | .mk op v rel col n s l, cs => okVal v ∧ ∃ q c, cs = exCells op v rel col n s q l.length c ∧ l.length ≤ c ∧ ExLP w P q 0 l
def ExLP (w : World) (P : Nat → Prop) (q : Option Addr) : Nat → List Ex → Prop
  | _, [] => True
  | i, x :: r => (∃ g off cs, q = some ⟨g, off, none⟩ ∧ g < w.heap.size ∧ P g ∧ ExMP w P x cs ∧ ∀ (k : Nat) u, cs[k]? = some u → w.cell? ⟨g, off + i * 9 + k, none⟩ = some u) ∧ ExLP w P q (i + 1) r
end
theorem ExMP.iff {w : World} {P : Nat → Prop} {op : Int} {v : Val} {rel col n : Int} {s : ByteArray} {l : List Ex} {cs : List Value} : ExMP w P (.mk op v rel col n s l) cs ↔ okVal v ∧ ∃ q c, cs = exCells op v rel col n s q l.length c ∧ l.length ≤ c ∧ ExLP w P q 0 l := by rw [ExMP]
mutual
theorem ExMP.toM {w : World} {P : Nat → Prop} : ∀ (x : Ex) (cs : List Value), ExMP w P x cs → ExM w x cs
  | .mk op v rel col n s l, cs, h => by
    rw [ExMP] at h
    rw [ExM]
    obtain ⟨hv, q, c, e, hc, hl⟩ := h
    exact ⟨hv, q, c, e, hc, ExLP.toL l q 0 hl⟩
theorem ExLP.toL {w : World} {P : Nat → Prop} : ∀ (l : List Ex) (q : Option Addr) (i : Nat), ExLP w P q i l → ExL w q i l
  | [], q, i, _ => by rw [ExL]; trivial
  | x :: r, q, i, h => by
    rw [ExLP] at h
    rw [ExL]
    obtain ⟨⟨g, off, cs, e, hg, _, hx, hcell⟩, hr⟩ := h
    exact ⟨⟨g, off, cs, e, hg, ExMP.toM x cs hx, hcell⟩, ExLP.toL r q (i + 1) hr⟩
end
mutual
theorem ExM.toP {w : World} : ∀ (x : Ex) (cs : List Value), ExM w x cs → ExMP w (fun g => g < w.heap.size) x cs
  | .mk op v rel col n s l, cs, h => by
    rw [ExM] at h
    rw [ExMP]
    obtain ⟨hv, q, c, e, hc, hl⟩ := h
    exact ⟨hv, q, c, e, hc, ExL.toP l q 0 hl⟩
theorem ExL.toP {w : World} : ∀ (l : List Ex) (q : Option Addr) (i : Nat), ExL w q i l → ExLP w (fun g => g < w.heap.size) q i l
  | [], q, i, _ => by rw [ExLP]; trivial
  | x :: r, q, i, h => by
    rw [ExL] at h
    rw [ExLP]
    obtain ⟨⟨g, off, cs, e, hg, hx, hcell⟩, hr⟩ := h
    exact ⟨⟨g, off, cs, e, hg, hg, ExM.toP x cs hx, hcell⟩, ExL.toP r q (i + 1) hr⟩
end
mutual
theorem ExMP.on {w w' : World} {P Q : Nat → Prop} (hs : w.heap.size ≤ w'.heap.size) (hP : ∀ g, P g → g < w.heap.size → w'.heap[g]? = w.heap[g]?) (hQ : ∀ g, P g → g < w.heap.size → Q g) : ∀ (x : Ex) (cs : List Value), ExMP w P x cs → ExMP w' Q x cs
  | .mk op v rel col n s l, cs, h => by
    rw [ExMP] at h ⊢
    obtain ⟨hv, q, c, e, hc, hl⟩ := h
    exact ⟨hv, q, c, e, hc, ExLP.on hs hP hQ l q 0 hl⟩
theorem ExLP.on {w w' : World} {P Q : Nat → Prop} (hs : w.heap.size ≤ w'.heap.size) (hP : ∀ g, P g → g < w.heap.size → w'.heap[g]? = w.heap[g]?) (hQ : ∀ g, P g → g < w.heap.size → Q g) : ∀ (l : List Ex) (q : Option Addr) (i : Nat), ExLP w P q i l → ExLP w' Q q i l
  | [], q, i, _ => by rw [ExLP]; trivial
  | x :: r, q, i, h => by
    rw [ExLP] at h ⊢
    obtain ⟨⟨g, off, cs, e, hg, hp, hx, hcell⟩, hr⟩ := h
    exact ⟨⟨g, off, cs, e, Nat.lt_of_lt_of_le hg hs, hQ g hp hg, ExMP.on hs hP hQ x cs hx, fun k u hu => (World.cell?_of_block (w := w) (hP g hp hg)).trans (hcell k u hu)⟩, ExLP.on hs hP hQ r q (i + 1) hr⟩
end
theorem ExMP.below {w w' : World} {P : Nat → Prop} (hb : Below w.heap.size w w') {x : Ex} {cs : List Value} (h : ExMP w P x cs) : ExMP w' P x cs := ExMP.on hb.size (fun g _ hg => hb.block g hg) (fun _ h _ => h) x cs h
theorem ExMP.len {w : World} {P : Nat → Prop} {x : Ex} {cs : List Value} (h : ExMP w P x cs) : cs.length = 9 := ex_len9 (ExMP.toM x cs h)
theorem ExMP.raw {w : World} {P : Nat → Prop} {x : Ex} {cs : List Value} (h : ExMP w P x cs) : ∃ r : RawE, cs = r.cells := by
  obtain ⟨op, v, rel, col, n, s, l⟩ := x
  rw [ExMP.iff] at h
  obtain ⟨-, q, c, rfl, -, -⟩ := h
  exact ⟨⟨op, v, rel, col, n, s, q, l.length, c⟩, rfl⟩
theorem ExLP.at_ {w : World} {P : Nat → Prop} {q : Option Addr} : ∀ {l : List Ex} {i j : Nat} {x : Ex}, ExLP w P q i l → l[j]? = some x → ∃ g off cs, q = some ⟨g, off, none⟩ ∧ g < w.heap.size ∧ P g ∧ ExMP w P x cs ∧ ∀ (k : Nat) u, cs[k]? = some u → w.cell? ⟨g, off + (i + j) * 9 + k, none⟩ = some u
  | y :: l, i, 0, x, h, hx => by
    rw [ExLP] at h
    simp at hx
    subst hx
    exact h.1
  | y :: l, i, j + 1, x, h, hx => by
    rw [ExLP] at h
    have := ExLP.at_ (l := l) (i := i + 1) (j := j) h.2 (by simpa using hx)
    rw [show i + (j + 1) = i + 1 + j by omega]
    exact this
theorem ExLP.of {w : World} {P : Nat → Prop} {q : Option Addr} : ∀ {l : List Ex} {i : Nat}, (∀ (j : Nat) (x : Ex), l[j]? = some x → ∃ g off cs, q = some ⟨g, off, none⟩ ∧ g < w.heap.size ∧ P g ∧ ExMP w P x cs ∧ ∀ (k : Nat) u, cs[k]? = some u → w.cell? ⟨g, off + (i + j) * 9 + k, none⟩ = some u) → ExLP w P q i l
  | [], i, _ => by rw [ExLP]; trivial
  | x :: r, i, h => by
    rw [ExLP]
    refine ⟨?_, ExLP.of fun j y hy => ?_⟩
    · obtain ⟨g, off, cs, h1, h2, h3, h4, h5⟩ := h 0 x rfl
      exact ⟨g, off, cs, h1, h2, h3, h4, fun k u hu => h5 k u hu⟩
    · obtain ⟨g, off, cs, h1, h2, h3, h4, h5⟩ := h (j + 1) y (by simpa using hy)
      refine ⟨g, off, cs, h1, h2, h3, h4, fun k u hu => ?_⟩
      rw [show i + 1 + j = i + (j + 1) by omega]
      exact h5 k u hu
abbrev OwnE (w : World) (base : Nat) (v : Value) (K : List RawE) : Prop := OwnF w base 26 9 RawE.cells v K
theorem Tryd.infoExpr8 : (Tryd.prog.info? 26).map (fun i => (i.zero, i.size, i.bytes)) = some (some (.agg rawZ.cells.toArray), 9, 104) := by kernel_rfl
theorem ExLP.two {w : World} {P : Nat → Prop} {g : Nat} {x y : Ex} {cs ds : List Value} (hx : ExMP w P x cs) (hy : ExMP w P y ds) (hg : g < w.heap.size) (hP : P g) (hc : ∀ (k : Nat) u, (cs ++ ds)[k]? = some u → w.cell? ⟨g, k, none⟩ = some u) : ExLP w P (some ⟨g, 0, none⟩) 0 [x, y] := by
  have hl := hx.len
  rw [ExLP, ExLP, ExLP]
  refine ⟨⟨g, 0, cs, rfl, hg, hP, hx, fun k u hu => ?_⟩, ⟨g, 0, ds, rfl, hg, hP, hy, fun k u hu => ?_⟩, trivial⟩
  · rw [show 0 + 0 * 9 + k = k by omega]
    exact hc k u (by rw [List.getElem?_append_left (List.getElem?_eq_some_iff.1 hu).1]; exact hu)
  · rw [show 0 + (0 + 1) * 9 + k = 9 + k by omega]
    exact hc (9 + k) u (by rw [List.getElem?_append_right (by omega), hl, show 9 + k - 9 = k by omega]; exact hu)
theorem OwnE.set1 {w : World} {b g n c i k : Nat} {K : List RawE} {r r' : RawE} {u : Value} (h : OwnE w b (.slice (some ⟨g, 0, none⟩) n c) (K.set i r)) (hi : i < K.length) (hk : k < 9) (hx : r'.cells = r.cells.set k u) : OwnE (w.setCell ⟨g, i * 9 + k, none⟩ u) b (.slice (some ⟨g, 0, none⟩) n c) (K.set i r') := by
  have h1 := OwnF.setc RawE.cells_len h (List.getElem?_set_self hi) hk hx
  rw [List.set_set] at h1
  exact h1
abbrev setE (w : World) (g o : Nat) (r : RawE) : World := ((((((((w.setCell ⟨g, o, none⟩ (.int .i64 r.op)).setCell ⟨g, o + 1, none⟩ (.int .i64 r.v.k)).setCell ⟨g, o + 2, none⟩ (.int .i64 r.v.n)).setCell ⟨g, o + 3, none⟩ (.string r.v.s)).setCell ⟨g, o + 4, none⟩ (.int .i64 r.rel)).setCell ⟨g, o + 5, none⟩ (.int .i64 r.col)).setCell ⟨g, o + 6, none⟩ (.int .i64 r.n)).setCell ⟨g, o + 7, none⟩ (.string r.s)).setCell ⟨g, o + 8, none⟩ (.slice r.q r.len r.c)
theorem OwnE.setAll {w : World} {b g n c i : Nat} {K : List RawE} (r' : RawE) (h : OwnE w b (.slice (some ⟨g, 0, none⟩) n c) K) (hi : i < K.length) : OwnE (setE w g (i * 9) r') b (.slice (some ⟨g, 0, none⟩) n c) (K.set i r') := by
  obtain ⟨op, ⟨vk, vn, vs⟩, rel, col, nn, s, q, len, cc⟩ := r'
  obtain ⟨r0, h0⟩ : ∃ r0, OwnE w b (.slice (some ⟨g, 0, none⟩) n c) (K.set i r0) := ⟨K[i], by rw [List.set_getElem_self]; exact h⟩
  obtain ⟨op0, ⟨vk0, vn0, vs0⟩, rel0, col0, nn0, s0, q0, len0, cc0⟩ := r0
  have h1 := OwnE.set1 (k := 0) (u := .int .i64 op) (r' := ⟨op, ⟨vk0, vn0, vs0⟩, rel0, col0, nn0, s0, q0, len0, cc0⟩) h0 hi (by decide) rfl
  have h2 := OwnE.set1 (k := 1) (u := .int .i64 vk) (r' := ⟨op, ⟨vk, vn0, vs0⟩, rel0, col0, nn0, s0, q0, len0, cc0⟩) h1 hi (by decide) rfl
  have h3 := OwnE.set1 (k := 2) (u := .int .i64 vn) (r' := ⟨op, ⟨vk, vn, vs0⟩, rel0, col0, nn0, s0, q0, len0, cc0⟩) h2 hi (by decide) rfl
  have h4 := OwnE.set1 (k := 3) (u := .string vs) (r' := ⟨op, ⟨vk, vn, vs⟩, rel0, col0, nn0, s0, q0, len0, cc0⟩) h3 hi (by decide) rfl
  have h5 := OwnE.set1 (k := 4) (u := .int .i64 rel) (r' := ⟨op, ⟨vk, vn, vs⟩, rel, col0, nn0, s0, q0, len0, cc0⟩) h4 hi (by decide) rfl
  have h6 := OwnE.set1 (k := 5) (u := .int .i64 col) (r' := ⟨op, ⟨vk, vn, vs⟩, rel, col, nn0, s0, q0, len0, cc0⟩) h5 hi (by decide) rfl
  have h7 := OwnE.set1 (k := 6) (u := .int .i64 nn) (r' := ⟨op, ⟨vk, vn, vs⟩, rel, col, nn, s0, q0, len0, cc0⟩) h6 hi (by decide) rfl
  have h8 := OwnE.set1 (k := 7) (u := .string s) (r' := ⟨op, ⟨vk, vn, vs⟩, rel, col, nn, s, q0, len0, cc0⟩) h7 hi (by decide) rfl
  exact OwnE.set1 (k := 8) (u := .slice q len cc) (r' := ⟨op, ⟨vk, vn, vs⟩, rel, col, nn, s, q, len, cc⟩) h8 hi (by decide) rfl
theorem setE_out (w : World) (g o : Nat) (r : RawE) : Out (fun k => k = g) w (setE w g o r) := by
  have e : ∀ (W : World) (o : Nat) (u : Value), Out (fun k => k = g) W (W.setCell ⟨g, o, none⟩ u) := fun W o u => Out.set ⟨g, o, none⟩ u rfl
  exact ((((((((e _ _ _).trans (e _ _ _)).trans (e _ _ _)).trans (e _ _ _)).trans (e _ _ _)).trans (e _ _ _)).trans (e _ _ _)).trans (e _ _ _)).trans (e _ _ _)
structure XB (W : World) (g : Nat) (r : RawE) : Prop where
  lt : g < W.heap.size
  c : ∀ k u, r.cells[k]? = some u → W.cell? ⟨g, k, none⟩ = some u
  fz : ∀ o, W.frozen? ⟨g, o, none⟩ = false
theorem XB.on {W W' : World} {g : Nat} {r : RawE} (h : XB W g r) (hb : Below W.heap.size W W') : XB W' g r :=
  ⟨Nat.lt_of_lt_of_le h.lt hb.size, fun k u hu => (hb.cell (p := ⟨g, k, none⟩) h.lt).trans (h.c k u hu), fun o => (hb.frozen (p := ⟨g, o, none⟩) h.lt).trans (h.fz o)⟩
theorem XB.out {S : Nat → Prop} {W W' : World} {g : Nat} {r : RawE} (h : XB W g r) (o : Out S W W') (hS : ¬ S g) : XB W' g r :=
  ⟨Nat.lt_of_lt_of_le h.lt o.size, fun k u hu => (World.cell?_of_block (w := W) (o.block g h.lt hS)).trans (h.c k u hu), fun k => by
    have h1 := h.fz k
    have h2 := o.block g h.lt hS
    unfold World.frozen? at h1 ⊢
    rw [h2]
    exact h1⟩
theorem XB.new (W : World) (r : RawE) (T : TypeId) : XB (W.alloc (.cells r.cells.toArray T)) W.heap.size r :=
  ⟨by simp, fun k u hu => by rw [Lib.cell_of_heap (heap_alloc_new W _)]; rw [List.getElem?_toArray]; exact hu, fun o => Lib.frozen_of_heap (heap_alloc_new W _) o⟩
theorem XB.cell8 {W : World} {g : Nat} {r : RawE} (h : XB W g r) (q : Option Addr) (len c : Nat) : XB (W.setCell ⟨g, 8, none⟩ (.slice q len c)) g ⟨r.op, r.v, r.rel, r.col, r.n, r.s, q, len, c⟩ :=
  ⟨by rw [World.size_setCell]; exact h.lt, fun k u hu => by
    by_cases hk : k = 8
    · subst hk
      have e : u = .slice q len c := by simp [RawE.cells, exCells] at hu; exact hu.symm
      rw [e]
      have h8 := h.c 8 _ rfl
      simp [go_sem, h8]
    · have hne : (⟨g, k, none⟩ : Addr) ≠ ⟨g, 8, none⟩ := fun e => hk (by injection e)
      refine (World.cell?_setCell_other _ _ _ _ (fun e => hne (by rw [e]))).trans (h.c k u ?_)
      have hk9 : k < 9 := (List.getElem?_eq_some_iff.1 hu).1
      match k, hk, hk9 with
      | 0, _, _ => exact hu
      | 1, _, _ => exact hu
      | 2, _, _ => exact hu
      | 3, _, _ => exact hu
      | 4, _, _ => exact hu
      | 5, _, _ => exact hu
      | 6, _, _ => exact hu
      | 7, _, _ => exact hu
      | 8, h, _ => exact absurd rfl h
      | k + 9, _, h => exact absurd h (by omega), fun o => by rw [World.frozen?_setCell]; exact h.fz o⟩
theorem XB.set1 {W : World} {g k : Nat} {r r' : RawE} {u : Value} (h : XB W g r) (hk : k < 9) (hx : r'.cells = r.cells.set k u) : XB (W.setCell ⟨g, k, none⟩ u) g r' :=
  ⟨by rw [World.size_setCell]; exact h.lt, fun j y hy => by
    rw [hx] at hy
    by_cases hj : j = k
    · subst hj
      rw [List.getElem?_set_self (by exact hk)] at hy
      cases hy
      have h8 := h.c j _ (List.getElem?_eq_getElem (by exact hk))
      simp [go_sem, h8]
    · rw [List.getElem?_set_ne (fun e => hj e.symm)] at hy
      exact (World.cell?_setCell_other _ _ _ _ (fun e => hj (by have h5 := congrArg Addr.off e; simp at h5; omega))).trans (h.c j y hy), fun o => by rw [World.frozen?_setCell]; exact h.fz o⟩
theorem XB.setAll {W : World} {g : Nat} {r : RawE} (h : XB W g r) (r' : RawE) : XB (setE W g 0 r') g r' := by
  obtain ⟨op, ⟨vk, vn, vs⟩, rel, col, nn, s, q, len, cc⟩ := r'
  obtain ⟨op0, ⟨vk0, vn0, vs0⟩, rel0, col0, nn0, s0, q0, len0, cc0⟩ := r
  have h1 := XB.set1 (k := 0) (u := .int .i64 op) (r' := ⟨op, ⟨vk0, vn0, vs0⟩, rel0, col0, nn0, s0, q0, len0, cc0⟩) h (by decide) rfl
  have h2 := XB.set1 (k := 1) (u := .int .i64 vk) (r' := ⟨op, ⟨vk, vn0, vs0⟩, rel0, col0, nn0, s0, q0, len0, cc0⟩) h1 (by decide) rfl
  have h3 := XB.set1 (k := 2) (u := .int .i64 vn) (r' := ⟨op, ⟨vk, vn, vs0⟩, rel0, col0, nn0, s0, q0, len0, cc0⟩) h2 (by decide) rfl
  have h4 := XB.set1 (k := 3) (u := .string vs) (r' := ⟨op, ⟨vk, vn, vs⟩, rel0, col0, nn0, s0, q0, len0, cc0⟩) h3 (by decide) rfl
  have h5 := XB.set1 (k := 4) (u := .int .i64 rel) (r' := ⟨op, ⟨vk, vn, vs⟩, rel, col0, nn0, s0, q0, len0, cc0⟩) h4 (by decide) rfl
  have h6 := XB.set1 (k := 5) (u := .int .i64 col) (r' := ⟨op, ⟨vk, vn, vs⟩, rel, col, nn0, s0, q0, len0, cc0⟩) h5 (by decide) rfl
  have h7 := XB.set1 (k := 6) (u := .int .i64 nn) (r' := ⟨op, ⟨vk, vn, vs⟩, rel, col, nn, s0, q0, len0, cc0⟩) h6 (by decide) rfl
  have h8 := XB.set1 (k := 7) (u := .string s) (r' := ⟨op, ⟨vk, vn, vs⟩, rel, col, nn, s, q0, len0, cc0⟩) h7 (by decide) rfl
  exact XB.set1 (k := 8) (u := .slice q len cc) (r' := ⟨op, ⟨vk, vn, vs⟩, rel, col, nn, s, q, len, cc⟩) h8 (by decide) rfl
end Go.Proofs.YtklgoajgchfmeaaDoor
