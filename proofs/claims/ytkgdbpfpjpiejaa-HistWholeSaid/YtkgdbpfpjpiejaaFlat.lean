/- Things of several cells each that a call gathers in a slice of its own: of whatever element type; what an append does. -/
import Derived.Test.YtkgdbpfpjpiejaaStD
import Derived.Deep.Upon
namespace Go.Proofs.Ytkgdbpfpjpiejaa
open Go.RowKit

section
variable {α : Type} {cells : α → List Value} {sz : Nat}
theorem flat_len (hcl : ∀ x, (cells x).length = sz) (l : List α) : (l.flatMap cells).length = l.length * sz := by
  induction l with
  | nil => simp
  | cons a l ih => rw [List.flatMap_cons, List.length_append, hcl, ih, List.length_cons, Nat.add_mul]; omega
theorem flat_get (hcl : ∀ x, (cells x).length = sz) (h0 : 0 < sz) : ∀ (l : List α) (j : Nat) (u : Value), (l.flatMap cells)[j]? = some u → ∃ x, l[j / sz]? = some x ∧ (cells x)[j % sz]? = some u
  | [], j, u, h => by simp at h
  | a :: l, j, u, h => by
    rw [List.flatMap_cons] at h
    by_cases hj : j < sz
    · rw [List.getElem?_append_left (by rw [hcl]; exact hj)] at h
      exact ⟨a, by rw [Nat.div_eq_of_lt hj]; rfl, by rw [Nat.mod_eq_of_lt hj]; exact h⟩
    · rw [List.getElem?_append_right (by rw [hcl]; omega), hcl] at h
      obtain ⟨x, h1, h2⟩ := flat_get hcl h0 l (j - sz) u h
      have hjs : j = (j - sz) + sz := by omega
      refine ⟨x, ?_, ?_⟩
      · rw [hjs, Nat.add_div_right _ h0]
        simpa using h1
      · rw [hjs, Nat.add_mod_right]
        exact h2
theorem flat_at (hcl : ∀ x, (cells x).length = sz) : ∀ (l : List α) (j k : Nat) (x : α) (u : Value), l[j]? = some x → (cells x)[k]? = some u → (l.flatMap cells)[j * sz + k]? = some u
  | [], j, k, x, u, h, _ => by simp at h
  | a :: l, 0, k, x, u, h, hk => by
    simp at h
    subst h
    have hl := (List.getElem?_eq_some_iff.1 hk).1
    rw [List.flatMap_cons, Nat.zero_mul, Nat.zero_add, List.getElem?_append_left hl]
    exact hk
  | a :: l, j + 1, k, x, u, h, hk => by
    rw [List.flatMap_cons, List.getElem?_append_right (by rw [hcl, Nat.add_mul]; omega), hcl, show (j + 1) * sz + k - sz = j * sz + k by rw [Nat.add_mul]; omega]
    exact flat_at hcl l j k x u (by simpa using h) hk

/-- The slice v holds the things l, in a block of the call's own. -/
def OwnF (w : World) (base : Nat) (E : TypeId) (sz : Nat) (cells : α → List Value) (v : Value) (l : List α) : Prop := w.ownsRow base E sz v l.length (l.flatMap cells)
theorem OwnF.nil (w : World) (base : Nat) (E : TypeId) : OwnF w base E sz cells (.slice none 0 0) [] := World.ownsRow_nil _ _ _ _
theorem OwnF.kept {S : Nat → Prop} {w w' : World} {base : Nat} {E : TypeId} {v : Value} {l : List α} (h : OwnF w base E sz cells v l) (o : Out S w w') (hS : ∀ k, S k → v.ownBlock ≠ some k) : OwnF w' base E sz cells v l := by
  obtain ⟨h1, h2⟩ := h
  refine ⟨h1, ?_⟩
  rcases h2 with h2 | ⟨g, cap, cur, hv, hg, hh, r⟩
  · exact .inl h2
  · have hlt : g < w.heap.size := by
      rcases Nat.lt_or_ge g w.heap.size with h | h
      · exact h
      · rw [Array.getElem?_eq_none h] at hh; cases hh
    exact .inr ⟨g, cap, cur, hv, hg, by rw [o.block g hlt (fun k => hS g k (by rw [hv]; rfl))]; exact hh, r⟩
theorem OwnF.later {w w' : World} {base : Nat} {E : TypeId} {v : Value} {l : List α} (h : OwnF w base E sz cells v l) (hb : Below w.heap.size w w') : OwnF w' base E sz cells v l := h.kept (Out.of (S := fun _ => False) hb) (fun _ h => h.elim)
theorem OwnF.base_le {w : World} {b b' : Nat} {E : TypeId} {v : Value} {l : List α} (h : OwnF w b E sz cells v l) (hb : b' ≤ b) : OwnF w b' E sz cells v l := by
  obtain ⟨h1, h2⟩ := h
  refine ⟨h1, ?_⟩
  rcases h2 with h2 | ⟨g, cap, cur, hv, hg, r⟩
  · exact .inl h2
  · exact .inr ⟨g, cap, cur, hv, Nat.le_trans hb hg, r⟩
theorem OwnF.arr {w : World} {base : Nat} {E : TypeId} {v : Value} {l : List α} (hcl : ∀ x, (cells x).length = sz) (h : OwnF w base E sz cells v l) :
    ∃ q c, v = .slice q l.length c ∧ l.length ≤ c ∧ c ≤ 9223372036854775807 ∧ (∀ g off, q = some ⟨g, off, none⟩ → off = 0 ∧ base ≤ g ∧ g < w.heap.size ∧ ∀ o, w.frozen? ⟨g, o, none⟩ = false) ∧ ArrA base w.heap.size q sz l (fun g o x => ∀ (k : Nat) u, (cells x)[k]? = some u → w.cell? ⟨g, o + k, none⟩ = some u) := by
  obtain ⟨h1, h2⟩ := h
  rcases h2 with ⟨rfl, h0⟩ | ⟨g, cap, cur, rfl, hb, hg, hn, hm, hc, ht⟩
  · exact ⟨none, 0, by rw [h0], by omega, by omega, (fun g off h => by cases h), fun i hi => by omega⟩
  · have hlt : g < w.heap.size := by
      rcases Nat.lt_or_ge g w.heap.size with h | h
      · exact h
      · rw [Array.getElem?_eq_none h] at hg; cases hg
    refine ⟨some ⟨g, 0, none⟩, cap, rfl, hn, by unfold maxLen at hm; omega, fun g' off h => ?_, fun i hi => ⟨g, 0, rfl, hb, hlt, fun j x hj k u hu => ?_⟩⟩
    · obtain ⟨rfl, rfl⟩ : g = g' ∧ 0 = off := by simpa using h
      exact ⟨rfl, hb, hlt, fun o => by rw [Lib.frozen_of_heap hg]; try simp⟩
    · have hf := flat_at hcl l j k x u hj hu
      have hjl : j * sz + k < l.length * sz := by
        have := (List.getElem?_eq_some_iff.1 hf).1
        rwa [flat_len hcl] at this
      rw [Lib.cell_of_heap hg, Nat.zero_add]
      have := congrArg (fun l => l[j * sz + k]?) ht
      simp only [List.getElem?_take, if_pos hjl] at this
      rw [← Array.getElem?_toList, this]
      exact hf

theorem wp_append_flat {w : World} {ops : Array Oper} {rest : List Oper} {o : Oper} {a : Act} {Q : Exit → Act → World → Prop} (hgd : o.guard = none) (s x : Operand) (T E : TypeId) (ho : o.op = .call { callee := .builtin .append, args := #[s, x], argTypes := #[T, T] })
    (hT : Try.prog.underlying T = some (.slice E)) (z : Value) (bytes : Nat) (hI : (Try.prog.info? E).map (fun i => (i.zero, i.size, i.bytes)) = some (some z, sz, bytes)) (hzs : z.cells.size = sz) (h0 : 0 < sz)
    (hcl : ∀ x : α, (cells x).length = sz) (h1 : ∀ (x : α) (u : Value), u ∈ cells x → u.oneCell' = true)
    (base : Nat) (v : Value) (l : List α) (hs : a.eval s = v) (hown : OwnF w base E sz cells v l) (p : Option Addr) (n c : Nat) (m : List α) (hn : n = m.length) (hx : a.eval x = .slice p n c)
    (lo hi : Nat) (hR : ArrA lo hi p sz m (fun g o x => ∀ (k : Nat) u, (cells x)[k]? = some u → w.cell? ⟨g, o + k, none⟩ = some u)) (hlen : l.length + m.length ≤ maxLen) (hbytes : (l.length + m.length) * bytes ≤ 140737488355328) (hbase : base ≤ w.heap.size)
    (h : ∀ v' w', OwnF w' base E sz cells v' (l ++ m) → Below base w w' → Out (fun k => v.ownBlock = some k) w w' → wpList Try.prog ops Q rest (a.put o.dst v') w') : wpList Try.prog ops Q (o :: rest) a w := by
  subst hn
  obtain ⟨i0, hi0, hz0, hz1, hz2⟩ := info_parts hI
  have go : ∀ ad : Addr, p = some ad → (∀ (j : Nat) (u : Value), (m.flatMap cells)[j]? = some u → w.cell? (ad.add j) = some u) → wpList Try.prog ops Q (o :: rest) a w := by
    intro ad hp hcells
    subst hp
    refine wpList_append_own w hgd s x T ho base E i0 z sz bytes hT hi0 hz0 hz1 hz2 hzs h0 v l.length _ hs hown ad m.length c (m.flatMap cells) hx (flat_len hcl m) hcells ?_ hlen hbytes hbase ?_
    · intro u hu
      obtain ⟨x, _, hx⟩ := List.mem_flatMap.1 hu
      exact h1 x u hx
    · intro v' w' h2 h3 _
      refine h v' w' ?_ ((Below.refl _ _).grown h3 hbase fun k hk => (hown.lt _ hk).1) (Out.grown h3 fun k hk => hk)
      unfold OwnF
      rw [List.length_append, List.flatMap_append]
      exact h2
  by_cases hm : 0 < m.length
  · obtain ⟨b, off, rfl, _, _, hc⟩ := hR 0 hm
    refine go _ rfl fun j u hj => ?_
    obtain ⟨y, hy, hk⟩ := flat_get hcl h0 m j u hj
    have := hc (j / sz) y hy (j % sz) u hk
    have e : off + j / sz * sz + j % sz = off + j := by rw [Nat.add_assoc, Nat.div_add_mod']
    rw [e] at this
    unfold Addr.add
    split
    · rename_i hj0; subst hj0; exact this
    · exact this
  · obtain rfl : m = [] := List.length_eq_zero_iff.1 (by omega)
    cases p with
    | none =>
      obtain ⟨q, cap, rfl, hcap, _, _⟩ := hown.arr hcl
      have hr := run_append_nothing (P := Try.prog) w T T o.type E i0 hT hi0 q l.length cap hcap (.slice none 0 c) ⟨.inl ⟨_, hT⟩, fun _ => rfl, run_firstCells_none w _ 0 0 c, run_firstCells_none w.drew _ 0 0 c, by simp, by simp⟩
      refine wpList_plain hgd fun K hK => ?_
      unfold Oper.wp execOp
      simp only [ho, resolve, invoke, builtin, Sem.run_bind, Sem.run_pure, Result.andThen_ok, List.map_toArray, List.map_cons, List.map_nil, hs, hx, List.length_nil, hr]
      exact hK _ _ (h _ _ (by simpa using hown) (Below.refl _ _) (Out.refl _ _))
    | some ad => exact go ad rfl (fun j u hj => by simp at hj)
end

/-- A thing in a block of its own. -/
theorem one_block {W : World} {α : Type} {cells : α → List Value} {sz : Nat} (_ : ∀ x, (cells x).length = sz) (E : TypeId) (cs : Array Value) (x : α) (hx : cs.toList = cells x) (b : Nat) (hb : b = W.heap.size) :
    ArrA 0 (b + 1) (some ⟨b, 0, none⟩) sz [x] (fun g o r => ∀ (k : Nat) u, (cells r)[k]? = some u → (W.alloc (.cells cs E)).cell? ⟨g, o + k, none⟩ = some u) := fun j hj => ⟨b, 0, rfl, Nat.zero_le _, by omega, fun n r hr k u hk => by
  subst hb
  have hn : n = 0 := by have := (List.getElem?_eq_some_iff.1 hr).1; simp at this; omega
  subst hn
  simp only [List.getElem?_cons_zero, Option.some.injEq] at hr
  subst hr
  rw [Lib.cell_of_heap (heap_alloc_new W _)]
  rw [← hx] at hk
  simpa using hk⟩

end Go.Proofs.Ytkgdbpfpjpiejaa
