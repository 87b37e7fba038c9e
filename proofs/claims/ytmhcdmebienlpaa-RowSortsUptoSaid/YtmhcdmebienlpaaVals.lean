/- Values that a call gathers in a slice of its own: one value more; such a slice as a row. -/
import Derived.Test.YtmhcdmebienlpaaRowMem
import Derived.Test.YtmhcdmebienlpaaBytes
namespace Go.Proofs.Ytmhcdmebienlpaa
open Go.RowKit

theorem Try.infoVal : (Try.prog.info? 36).map (fun i => (i.zero, i.size, i.bytes)) = some (some (.agg #[.int .i64 0, .int .i64 0, .string ⟨#[]⟩]), 3, 32) := by kernel_rfl

/-- The cells of values. -/
def cellsV : List Val → List Value
  | [] => []
  | x :: l => .int .i64 x.k :: .int .i64 x.n :: .string x.s :: cellsV l
theorem cellsV_length (l : List Val) : (cellsV l).length = l.length * 3 := by
  induction l with
  | nil => rfl
  | cons x l ih => simp [cellsV, ih]; omega
theorem cellsV_append (l m : List Val) : cellsV (l ++ m) = cellsV l ++ cellsV m := by
  induction l with
  | nil => rfl
  | cons x l ih => simp [cellsV, ih]
theorem cellsV_one (l : List Val) : ∀ u ∈ cellsV l, u.oneCell' = true := by
  induction l with
  | nil => simp [cellsV]
  | cons x l ih =>
    intro u hu
    simp [cellsV] at hu
    rcases hu with rfl | rfl | rfl | hu
    · rfl
    · rfl
    · rfl
    · exact ih u hu
theorem cellsV_at (l : List Val) : ∀ i x, l[i]? = some x → (cellsV l)[i * 3]? = some (.int .i64 x.k) ∧ (cellsV l)[i * 3 + 1]? = some (.int .i64 x.n) ∧ (cellsV l)[i * 3 + 2]? = some (.string x.s) := by
  induction l with
  | nil => simp
  | cons y l ih =>
    intro i x h
    cases i with
    | zero => simp at h; subst h; simp [cellsV]
    | succ i =>
      simp at h
      have := ih i x h
      rw [show (i + 1) * 3 = i * 3 + 3 by omega, show i * 3 + 3 + 1 = i * 3 + 1 + 3 by omega, show i * 3 + 3 + 2 = i * 3 + 2 + 3 by omega]
      simpa [cellsV] using this

/-- The slice v holds the values l, in a block of the call's own (numbers from base on). -/
def OwnV (w : World) (base : Nat) (v : Value) (l : List Val) : Prop := w.ownsRow base 36 3 v l.length (cellsV l)

theorem OwnV.nil (w : World) (base : Nat) : OwnV w base (.slice none 0 0) [] := World.ownsRow_nil _ _ _ _
theorem OwnV.later {w w' : World} {base : Nat} {v : Value} {l : List Val} (h : OwnV w base v l) (hb : Below w.heap.size w w') : OwnV w' base v l := by
  obtain ⟨h1, h2⟩ := h
  refine ⟨h1, ?_⟩
  rcases h2 with h2 | ⟨g, cap, cur, hv, hg, hh, r⟩
  · exact .inl h2
  · have hlt : g < w.heap.size := by
      rcases Nat.lt_or_ge g w.heap.size with h | h
      · exact h
      · rw [Array.getElem?_eq_none h] at hh; cases hh
    exact .inr ⟨g, cap, cur, hv, hg, by rw [hb.block g hlt]; exact hh, r⟩

/-- Such a slice is a row. -/
theorem OwnV.row {w : World} {base : Nat} {v : Value} {l : List Val} (h : OwnV w base v l) : ∃ p cap, v = .slice p l.length cap ∧ RowP w p l.length (fun i => l[i]?.getD nul) ∧ (∀ a, p = some a → base ≤ a.block) ∧ cap ≤ maxLen := by
  obtain ⟨h1, h2⟩ := h
  rcases h2 with ⟨rfl, h0⟩ | ⟨g, cap, cur, rfl, hb, hg, hn, hm, hc, ht⟩
  · rw [h0]
    exact ⟨none, 0, rfl, .inl rfl, (fun a ha => by cases ha), by unfold maxLen; omega⟩
  · have hlt : g < w.heap.size := by
      rcases Nat.lt_or_ge g w.heap.size with h | h
      · exact h
      · rw [Array.getElem?_eq_none h] at hg; cases hg
    have hcell : ∀ j u, (cellsV l)[j]? = some u → w.cell? ⟨g, j, none⟩ = some u := by
      intro j u hu
      rw [← ht, List.getElem?_take] at hu
      split at hu
      · simp [World.cell?, hg]
        simpa using hu
      · cases hu
    refine ⟨some ⟨g, 0, none⟩, cap, rfl, .inr ⟨g, 0, rfl, fun _ => hlt, ?_, ?_, ?_⟩, fun a ha => (by cases ha; exact hb), hm⟩
    all_goals
      intro i hi
      have hx : l[i]? = some (l[i]?.getD nul) := by rw [List.getElem?_eq_getElem hi]; rfl
      have := cellsV_at l i _ hx
      rw [Nat.zero_add]
    · exact hcell _ _ this.1
    · exact hcell _ _ this.2.1
    · exact hcell _ _ this.2.2

theorem wp_append_val {w : World} {ops : Array Oper} {rest : List Oper} {o : Oper} {a : Act} {Q : Exit → Act → World → Prop} (hgd : o.guard = none) (s x : Operand)
    (ho : o.op = .call { callee := .builtin .append, args := #[s, x], argTypes := #[22, 22] }) (base : Nat) (v : Value) (l : List Val) (hs : a.eval s = v) (hown : OwnV w base v l)
    (y : Val) (g c : Nat) (hx : a.eval x = .slice (some ⟨g, 0, none⟩) 1 c) (h0 : w.cell? ⟨g, 0, none⟩ = some (.int .i64 y.k)) (h1 : w.cell? ⟨g, 1, none⟩ = some (.int .i64 y.n)) (h2 : w.cell? ⟨g, 2, none⟩ = some (.string y.s))
    (hlen : l.length + 1 ≤ 4398046511104) (hbase : base ≤ w.heap.size)
    (h : ∀ v' w', OwnV w' base v' (l ++ [y]) → Below base w w' → wpList Try.prog ops Q rest (a.put o.dst v') w') : wpList Try.prog ops Q (o :: rest) a w := by
  obtain ⟨i0, hi, hz0, hz1, hz2⟩ := info_parts Try.infoVal
  refine wpList_append_own w hgd s x 22 ho base 36 i0 (.agg #[.int .i64 0, .int .i64 0, .string ⟨#[]⟩]) 3 32 Try.underlying22 hi hz0 hz1 hz2 rfl (by decide) v l.length _ hs hown ⟨g, 0, none⟩ 1 c [.int .i64 y.k, .int .i64 y.n, .string y.s] hx rfl ?_ ?_ ?_ ?_ hbase ?_
  · intro j u hj
    match j, hj with
    | 0, hj => simp at hj; subst hj; simpa [Addr.add] using h0
    | 1, hj => simp at hj; subst hj; simpa [Addr.add] using h1
    | 2, hj => simp at hj; subst hj; simpa [Addr.add] using h2
  · intro u hu
    simp at hu
    rcases hu with rfl | rfl | rfl <;> rfl
  · unfold maxLen; omega
  · omega
  · intro v' w' h1 h2 _
    refine h v' w' ?_ ((Below.refl _ _).grown h2 hbase fun k hk => (hown.lt _ hk).1)
    unfold OwnV
    rw [List.length_append, cellsV_append]
    exact h1

end Go.Proofs.Ytmhcdmebienlpaa
