/- A row appended to values of the call's own. -/
import Derived.Test.YtmhcdmebienlpaaVals
import Derived.Test.YtmhcdmebienlpaaRowPure
import Derived.Deep.Upon
namespace Go.Proofs.Ytmhcdmebienlpaa
open Go.RowKit

theorem cellsV_range (x : Nat → Val) (n j : Nat) (u : Value) (h : (cellsV ((List.range n).map x))[j]? = some u) : j < n * 3 ∧ (j % 3 = 0 → u = .int .i64 (x (j / 3)).k) ∧ (j % 3 = 1 → u = .int .i64 (x (j / 3)).n) ∧ (j % 3 = 2 → u = .string (x (j / 3)).s) := by
  have hj : j < n * 3 := by
    have := (List.getElem?_eq_some_iff.1 h).1
    rw [cellsV_length] at this
    simpa using this
  have hx : ((List.range n).map x)[j / 3]? = some (x (j / 3)) := by
    have : j / 3 < n := by omega
    simp [this]
  have c := cellsV_at _ _ _ hx
  refine ⟨hj, fun e => ?_, fun e => ?_, fun e => ?_⟩
  · have := c.1
    rw [show j / 3 * 3 = j by omega, h] at this
    exact Option.some.inj this
  · have := c.2.1
    rw [show j / 3 * 3 + 1 = j by omega, h] at this
    exact Option.some.inj this
  · have := c.2.2
    rw [show j / 3 * 3 + 2 = j by omega, h] at this
    exact Option.some.inj this

theorem RowAt.cells {W : World} {b off n : Nat} {x : Nat → Val} (h : RowAt W b off n x) : ∀ j u, (cellsV ((List.range n).map x))[j]? = some u → W.cell? ((⟨b, off, none⟩ : Addr).add j) = some u := by
  intro j u hu
  obtain ⟨hj, h0, h1, h2⟩ := cellsV_range x n j u hu
  rw [Addr.add_lit]
  rcases Nat.lt_or_ge (j % 3) 1 with e | e
  · have e : j % 3 = 0 := by omega
    rw [h0 e]
    have := h.c0 (j / 3) (by omega)
    rwa [show off + j / 3 * 3 = off + j by omega] at this
  · rcases Nat.lt_or_ge (j % 3) 2 with e' | e'
    · have e : j % 3 = 1 := by omega
      rw [h1 e]
      have := h.c1 (j / 3) (by omega)
      rwa [show off + j / 3 * 3 + 1 = off + j by omega] at this
    · have e : j % 3 = 2 := by omega
      rw [h2 e]
      have := h.c2 (j / 3) (by omega)
      rwa [show off + j / 3 * 3 + 2 = off + j by omega] at this

theorem wp_append_row {w : World} {ops : Array Oper} {rest : List Oper} {o : Oper} {a : Act} {Q : Exit → Act → World → Prop} (hgd : o.guard = none) (s x : Operand)
    (ho : o.op = .call { callee := .builtin .append, args := #[s, x], argTypes := #[22, 22] }) (base : Nat) (v : Value) (l : List Val) (hs : a.eval s = v) (hown : OwnV w base v l)
    (p : Option Addr) (n c : Nat) (r : Nat → Val) (hx : a.eval x = .slice p n c) (hR : RowP w p n r)
    (hlen : l.length + n ≤ 4398046511104) (hbase : base ≤ w.heap.size)
    (h : ∀ v' w', OwnV w' base v' (l ++ (List.range n).map r) → w.grownBy w' v.ownBlock → Below base w w' → wpList Try.prog ops Q rest (a.put o.dst v') w') : wpList Try.prog ops Q (o :: rest) a w := by
  obtain ⟨i0, hi, hz0, hz1, hz2⟩ := info_parts Try.infoVal
  rcases hR with rfl | ⟨b, off, rfl, hR⟩
  · cases p with
    | none =>
      obtain ⟨q, cap, rfl, _, _, _⟩ := hown.row
      have hcap : l.length ≤ cap := by
        rcases hown.2 with ⟨hv, h0⟩ | ⟨g, cap', cur, hv, _, _, hn, _⟩
        · omega
        · cases hv; exact hn
      have hr := run_append_nothing (P := Try.prog) w 22 22 o.type 36 i0 Try.underlying22 hi q l.length cap hcap (.slice none 0 c) ⟨.inl ⟨_, Try.underlying22⟩, fun _ => rfl, run_firstCells_none w _ 0 0 c, run_firstCells_none w.drew _ 0 0 c, by simp, by simp⟩
      refine wpList_plain hgd fun K hK => ?_
      unfold Oper.wp execOp
      simp only [ho, resolve, invoke, builtin, Sem.run_bind, Sem.run_pure, Result.andThen_ok, List.map_toArray, List.map_cons, List.map_nil, hs, hx, hr]
      exact hK _ _ (h _ _ (by simpa using hown) ⟨rfl, rfl, rfl, Nat.le_refl _, fun _ _ _ => rfl⟩ (Below.refl _ _))
    | some ad =>
      refine wpList_append_own w hgd s x 22 ho base 36 i0 (.agg #[.int .i64 0, .int .i64 0, .string ⟨#[]⟩]) 3 32 Try.underlying22 hi hz0 hz1 hz2 rfl (by decide) v l.length _ hs hown ad 0 c [] hx rfl (by intro j u hj; simp at hj) (by intro u hu; simp at hu) (by unfold maxLen; omega) (by omega) hbase ?_
      intro v' w' h1 h2 _
      refine h v' w' ?_ h2 ((Below.refl _ _).grown h2 hbase fun k hk => (hown.lt _ hk).1)
      unfold OwnV
      simpa using h1
  · refine wpList_append_own w hgd s x 22 ho base 36 i0 (.agg #[.int .i64 0, .int .i64 0, .string ⟨#[]⟩]) 3 32 Try.underlying22 hi hz0 hz1 hz2 rfl (by decide) v l.length _ hs hown ⟨b, off, none⟩ n c (cellsV ((List.range n).map r)) hx (by rw [cellsV_length]; simp) hR.cells (cellsV_one _) (by unfold maxLen; omega) (by omega) hbase ?_
    intro v' w' h1 h2 _
    refine h v' w' ?_ h2 ((Below.refl _ _).grown h2 hbase fun k hk => (hown.lt _ hk).1)
    unfold OwnV
    rw [List.length_append, cellsV_append]
    simpa using h1

end Go.Proofs.Ytmhcdmebienlpaa
