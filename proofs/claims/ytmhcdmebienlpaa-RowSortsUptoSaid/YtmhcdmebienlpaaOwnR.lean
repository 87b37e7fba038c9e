/- Lists of rows that a call gathers in a slice of its own. -/
import Derived.Test.YtmhcdmebienlpaaMade
import Derived.Test.YtmhcdmebienlpaaVals
namespace Go.Proofs.Ytmhcdmebienlpaa
open Go.RowKit

/-- The slice v holds these slices, in a block of the call's own. -/
def OwnR (w : World) (base : Nat) (v : Value) (l : List Value) : Prop := w.ownsRow base 22 1 v l.length l
theorem OwnR.later {w w' : World} {base : Nat} {v : Value} {l : List Value} (h : OwnR w base v l) (hb : Below w.heap.size w w') : OwnR w' base v l := by
  obtain ⟨h1, h2⟩ := h
  refine ⟨h1, ?_⟩
  rcases h2 with h2 | ⟨g, cap, cur, hv, hg, hh, r⟩
  · exact .inl h2
  · have hlt : g < w.heap.size := by
      rcases Nat.lt_or_ge g w.heap.size with h | h
      · exact h
      · rw [Array.getElem?_eq_none h] at hh; cases hh
    exact .inr ⟨g, cap, cur, hv, hg, by rw [hb.block g hlt]; exact hh, r⟩
theorem wp_append_slice {w : World} {ops : Array Oper} {rest : List Oper} {o : Oper} {a : Act} {Q : Exit → Act → World → Prop} (hgd : o.guard = none) (s x : Operand)
    (ho : o.op = .call { callee := .builtin .append, args := #[s, x], argTypes := #[34, 34] }) (base : Nat) (v : Value) (l : List Value) (hs : a.eval s = v) (hown : OwnR w base v l)
    (y : Value) (g c : Nat) (hx : a.eval x = .slice (some ⟨g, 0, none⟩) 1 c) (hc : w.cell? ⟨g, 0, none⟩ = some y) (hy : y.oneCell' = true) (hlen : l.length < 1099511627776) (hbase : base ≤ w.heap.size)
    (h : ∀ v' w', OwnR w' base v' (l ++ [y]) → w.grownBy w' v.ownBlock → Below base w w' → wpList Try.prog ops Q rest (a.put o.dst v') w') : wpList Try.prog ops Q (o :: rest) a w := by
  obtain ⟨i0, hi, hz0, hz1, hz2⟩ := info_parts Try.infoRow
  refine wpList_append_own w hgd s x 34 ho base 22 i0 (.slice none 0 0) 1 24 Try.underlying34 hi hz0 hz1 hz2 rfl (by decide) v l.length _ hs hown ⟨g, 0, none⟩ 1 c [y] hx rfl ?_ ?_ ?_ ?_ hbase ?_
  · intro j u hj
    match j, hj with
    | 0, hj => simp at hj; subst hj; simpa [Addr.add] using hc
  · intro u hu
    simp at hu
    subst hu
    exact hy
  · unfold maxLen; omega
  · omega
  · intro v' w' h1 h2 _
    refine h v' w' ?_ h2 ((Below.refl _ _).grown h2 hbase fun k hk => (hown.lt _ hk).1)
    unfold OwnR
    rw [List.length_append]
    exact h1
/-- Such a slice, as a list of rows. -/
theorem OwnR.rws {w : World} {base : Nat} {v : Value} {R : Rws} (h : OwnR w base v ((List.range R.n).map R.v)) : ∃ p cap, v = .slice p R.n cap ∧ R.at_ w p := by
  have hlen : ((List.range R.n).map R.v).length = R.n := by simp
  obtain ⟨h1, h2⟩ := h
  rw [hlen] at h2
  rcases h2 with ⟨rfl, h0⟩ | ⟨g, cap, cur, rfl, hb, hg, hn, hm, hc, ht⟩
  · rw [h0]
    exact ⟨none, 0, rfl, fun k hk => by omega⟩
  · refine ⟨some ⟨g, 0, none⟩, cap, rfl, fun k hk => ⟨g, 0, rfl, ?_, fun i hi => ?_⟩⟩
    · rcases Nat.lt_or_ge g w.heap.size with h | h
      · exact h
      · rw [Array.getElem?_eq_none h] at hg; cases hg
    · rw [Nat.zero_add, Lib.cell_of_heap hg]
      have := congrArg (fun l => l[i]?) ht
      simp [hi] at this
      simpa [hi] using this

/-- Slices one behind the other, behind the address p. -/
def SrcR (w : World) (p : Option Addr) (l : List Value) : Prop := l = [] ∨ ∃ b off, p = some ⟨b, off, none⟩ ∧ ∀ i u, l[i]? = some u → w.cell? ⟨b, off + i, none⟩ = some u
theorem OwnR.src {w : World} {base : Nat} {v : Value} {l : List Value} (h : OwnR w base v l) : ∃ p cap, v = .slice p l.length cap ∧ l.length ≤ cap ∧ (l = [] ∨ ∃ g, p = some ⟨g, 0, none⟩ ∧ base ≤ g ∧ g < w.heap.size ∧ ∀ i u, l[i]? = some u → w.cell? ⟨g, i, none⟩ = some u) := by
  obtain ⟨h1, h2⟩ := h
  rcases h2 with ⟨rfl, h0⟩ | ⟨g, cap, cur, rfl, hb, hg, hn, hm, hc, ht⟩
  · exact ⟨none, 0, by rw [h0], by omega, .inl (List.length_eq_zero_iff.1 h0)⟩
  · refine ⟨some ⟨g, 0, none⟩, cap, rfl, hn, .inr ⟨g, rfl, hb, ?_, fun i u hu => ?_⟩⟩
    · rcases Nat.lt_or_ge g w.heap.size with h | h
      · exact h
      · rw [Array.getElem?_eq_none h] at hg; cases hg
    · have hi : i < l.length := by
        rcases Nat.lt_or_ge i l.length with h | h
        · exact h
        · rw [List.getElem?_eq_none h] at hu; cases hu
      rw [Lib.cell_of_heap hg, ← hu]
      have := congrArg (fun l => l[i]?) ht
      simp [hi] at this
      simpa [hi] using this

theorem addr_add' (b off n : Nat) : (⟨b, off, none⟩ : Addr).add n = ⟨b, off + n, none⟩ := by
  unfold Addr.add
  split
  · rename_i h; subst h; rfl
  · rfl
theorem wp_append_rows {w : World} {ops : Array Oper} {rest : List Oper} {o : Oper} {a : Act} {Q : Exit → Act → World → Prop} (hgd : o.guard = none) (s x : Operand)
    (ho : o.op = .call { callee := .builtin .append, args := #[s, x], argTypes := #[34, 34] }) (base : Nat) (v : Value) (l : List Value) (hs : a.eval s = v) (hown : OwnR w base v l)
    (p : Option Addr) (n c : Nat) (m : List Value) (hn : n = m.length) (hx : a.eval x = .slice p n c) (hR : SrcR w p m) (h1 : ∀ u ∈ m, u.oneCell' = true) (hlen : l.length + m.length ≤ 1073741824) (hbase : base ≤ w.heap.size)
    (h : ∀ v' w', OwnR w' base v' (l ++ m) → w.grownBy w' v.ownBlock → Below base w w' → wpList Try.prog ops Q rest (a.put o.dst v') w') : wpList Try.prog ops Q (o :: rest) a w := by
  subst hn
  obtain ⟨i0, hi, hz0, hz1, hz2⟩ := info_parts Try.infoRow
  have go : ∀ ad : Addr, p = some ad → (∀ j u, m[j]? = some u → w.cell? (ad.add j) = some u) → wpList Try.prog ops Q (o :: rest) a w := by
    intro ad hp hcells
    subst hp
    refine wpList_append_own w hgd s x 34 ho base 22 i0 (.slice none 0 0) 1 24 Try.underlying34 hi hz0 hz1 hz2 rfl (by decide) v l.length _ hs hown ad m.length c m hx (by omega) hcells h1 (by unfold maxLen; omega) (by omega) hbase ?_
    intro v' w' h1 h2 _
    refine h v' w' ?_ h2 ((Below.refl _ _).grown h2 hbase fun k hk => (hown.lt _ hk).1)
    unfold OwnR
    rw [List.length_append]
    exact h1
  rcases hR with rfl | ⟨b, off, rfl, hc⟩
  · cases p with
    | none =>
      obtain ⟨q, cap, rfl, hcap, _⟩ := hown.src
      have hr := run_append_nothing (P := Try.prog) w 34 34 o.type 22 i0 Try.underlying34 hi q l.length cap hcap (.slice none 0 c) ⟨.inl ⟨_, Try.underlying34⟩, fun _ => rfl, run_firstCells_none w _ 0 0 c, run_firstCells_none w.drew _ 0 0 c, by simp, by simp⟩
      exact wp_run_append hgd s x _ ho _ _ _ _ hs hx hr (h _ _ (by simpa using hown) ⟨rfl, rfl, rfl, Nat.le_refl _, fun _ _ _ => rfl⟩ (Below.refl _ _))
    | some ad => exact go ad rfl (fun j u hj => by simp at hj)
  · exact go _ rfl fun j u hj => by
      rw [addr_add']
      exact hc j u hj

/-- A row that lies in another block than what has grown. -/
theorem RowP.grown {w w' : World} {o : Option Nat} {p : Option Addr} {n : Nat} {x : Nat → Val} (h : RowP w p n x) (hg : w.grownBy w' o) (hp : ∀ a, p = some a → o ≠ some a.block) : RowP w' p n x := by
  rcases h with h | ⟨b, off, rfl, hA⟩
  · exact .inl h
  · by_cases h0 : 0 < n
    · have hb := hA.lt h0
      have hc : ∀ k, w'.cell? ⟨b, k, none⟩ = w.cell? ⟨b, k, none⟩ := fun k => World.cell?_of_block (w := w) (hg.block b hb (fun e => hp _ rfl e.symm))
      exact .inr ⟨b, off, rfl, fun _ => Nat.lt_of_lt_of_le hb hg.size, fun j hj => (hc _).trans (hA.c0 j hj), fun j hj => (hc _).trans (hA.c1 j hj), fun j hj => (hc _).trans (hA.c2 j hj)⟩
    · exact .inl (by omega)
/-- The block of a slice of the call's own. -/
theorem OwnR.ownBlock {w : World} {base : Nat} {v : Value} {l : List Value} (h : OwnR w base v l) {b : Nat} (hb : v.ownBlock = some b) : base ≤ b ∧ b < w.heap.size := by
  rcases h.2 with ⟨rfl, _⟩ | ⟨g, cap, cur, rfl, hg, hh, _⟩
  · cases hb
  · cases hb
    refine ⟨hg, ?_⟩
    rcases Nat.lt_or_ge g w.heap.size with h | h
    · exact h
    · rw [Array.getElem?_eq_none h] at hh; cases hh

/-- A row of the call's own, where a list of rows of the call's own has grown: their blocks hold other things. -/
theorem OwnV.grownR {w w' : World} {b b' : Nat} {v v' : Value} {l : List Val} {l' : List Value} (h : OwnV w b v l) (h' : OwnR w b' v' l') (hg : w.grownBy w' v'.ownBlock) : OwnV w' b v l := by
  obtain ⟨h1, h2⟩ := h
  refine ⟨h1, ?_⟩
  rcases h2 with h2 | ⟨g, cap, cur, hv, hb, hh, r⟩
  · exact .inl h2
  · refine .inr ⟨g, cap, cur, hv, hb, ?_, r⟩
    have hlt : g < w.heap.size := by
      rcases Nat.lt_or_ge g w.heap.size with h | h
      · exact h
      · rw [Array.getElem?_eq_none h] at hh; cases hh
    rw [hg.block g hlt ?_]
    · exact hh
    · intro e
      rcases h'.2 with ⟨rfl, _⟩ | ⟨g', cap', cur', rfl, _, hh', _⟩
      · cases e
      · cases e
        rw [hh] at hh'
        simp at hh'

end Go.Proofs.Ytmhcdmebienlpaa
