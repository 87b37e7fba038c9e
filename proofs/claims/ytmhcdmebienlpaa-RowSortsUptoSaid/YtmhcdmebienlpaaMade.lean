/- 'append(make([]T, 0, len(l)), l...)' at rows and at lists of rows: a copy in a block of its own. -/
import Derived.Test.YtmhcdmebienlpaaSortW
import Derived.Test.YtmhcdmebienlpaaAppRow
import Derived.Deep.Upon
import Derived.Deep.DeepAppendRoom
import Derived.Laws.MakeOwn
namespace Go.Proofs.Ytmhcdmebienlpaa
open Go.RowKit
open Go.Sort (swp PermIn SortedIn SWO Ins)

theorem Try.infoRow : (Try.prog.info? 22).map (fun i => (i.zero, i.size, i.bytes)) = some (some (.slice none 0 0), 1, 24) := by kernel_rfl

theorem make_row (n : Nat) (hn : n ≤ 4398046511104) : ∃ M : Array Value, M.size = n * 3 ∧ ∀ W : World, (Instr.makeSlice 22 (.int .i64 0) (.int .i64 (n : Int))).run Try.prog W = .ok (.slice (some ⟨W.heap.size, 0, none⟩) 0 n) (W.alloc (.cells M 36)) := by
  obtain ⟨i0, hi, hz0, hz1, hz2⟩ := info_parts Try.infoVal
  refine ⟨madeCells (Value.agg #[.int .i64 0, .int .i64 0, .string ⟨#[]⟩]).cells (((n : Nat) : Int).toNat * i0.size), by rw [size_madeCells, hz1]; simp, fun W => ?_⟩
  have h := run_make (P := Try.prog) W 22 36 i0 (.agg #[.int .i64 0, .int .i64 0, .string ⟨#[]⟩]) Try.underlying22 hi hz0 .i64 .i64 0 (n : Int) (by omega) (by omega) (by rw [hz2]; omega) (by omega)
  simpa using h
theorem make_rows (n : Nat) (hn : n ≤ 4398046511104) : ∃ M : Array Value, M.size = n ∧ ∀ W : World, (Instr.makeSlice 34 (.int .i64 0) (.int .i64 (n : Int))).run Try.prog W = .ok (.slice (some ⟨W.heap.size, 0, none⟩) 0 n) (W.alloc (.cells M 22)) := by
  obtain ⟨i0, hi, hz0, hz1, hz2⟩ := info_parts Try.infoRow
  refine ⟨madeCells (Value.slice none 0 0).cells (((n : Nat) : Int).toNat * i0.size), by rw [size_madeCells, hz1]; simp, fun W => ?_⟩
  have h := run_make (P := Try.prog) W 34 22 i0 (.slice none 0 0) Try.underlying34 hi hz0 .i64 .i64 0 (n : Int) (by omega) (by omega) (by rw [hz2]; omega) (by omega)
  simpa using h

/-- Block g has room for n values. -/
def Blk (W : World) (g n : Nat) : Prop := ∃ cur : Array Value, W.heap[g]? = some (.cells cur 36 (0, 0)) ∧ n * 3 ≤ cur.size
theorem Blk.lt {W : World} {g n : Nat} (h : Blk W g n) : g < W.heap.size := by
  obtain ⟨cur, h1, _⟩ := h
  rcases Nat.lt_or_ge g W.heap.size with h | h
  · exact h
  · rw [Array.getElem?_eq_none h] at h1; cases h1
theorem Blk.ext {W W' : World} {g n : Nat} (h : Blk W g n) (hb : Below W.heap.size W W') : Blk W' g n := by
  have hlt := h.lt
  obtain ⟨cur, h1, h2⟩ := h
  exact ⟨cur, by rw [hb.block g hlt]; exact h1, h2⟩

/-- A row's copy. -/
theorem copy_row (w : World) (M : Array Value) (p : Option Addr) (n c : Nat) (x : Nat → Val) (ty : TypeId) (hM : M.size = n * 3) (hn : n ≤ 4398046511104) (hR : RowP w p n x) :
    ∃ w1, (Builtin.append_ #[22, 22] ty #[.slice (some ⟨w.heap.size, 0, none⟩) 0 n, .slice p n c]).run Try.prog (w.alloc (.cells M 36)) = .ok (.slice (some ⟨w.heap.size, 0, none⟩) n n) w1 ∧ RowP w1 (some ⟨w.heap.size, 0, none⟩) n x ∧ Below w.heap.size w w1 ∧ w.heap.size < w1.heap.size ∧ (0 < n → Blk w1 w.heap.size n) := by
  obtain ⟨i0, hi, hz0, hz1, hz2⟩ := info_parts Try.infoVal
  have hb : Below w.heap.size w (w.alloc (.cells M 36)) := (Below.refl _ w).alloc (Nat.le_refl _) _
  have hs : (w.alloc (.cells M 36)).heap.size = w.heap.size + 1 := by simp
  rcases hR with h0 | ⟨b, off, rfl, hR⟩
  · subst h0
    cases p with
    | none =>
      refine ⟨_, run_append_nothing (P := Try.prog) _ 22 22 ty 36 i0 Try.underlying22 hi _ 0 0 (Nat.le_refl _) (.slice none 0 c) ⟨.inl ⟨_, Try.underlying22⟩, fun _ => rfl, run_firstCells_none _ _ 0 0 c, run_firstCells_none _ _ 0 0 c, by simp, by simp⟩, .inl rfl, hb, by omega, fun h => absurd h (Nat.lt_irrefl 0)⟩
    | some ad =>
      obtain ⟨w1, h1, h2, h3⟩ := run_append_own_spare (P := Try.prog) (w.alloc (.cells M 36)) w.heap.size 22 ty 36 i0 3 Try.underlying22 hi hz1 w.heap.size 0 0 [] ⟨rfl, .inr ⟨_, 0, M, rfl, Nat.le_refl _, heap_alloc_new w _, Nat.le_refl _, by unfold maxLen; omega, by simpa using hM, by simp⟩⟩ ad 0 c [] rfl (by intro j u hj; simp at hj) (by intro u hu; simp at hu) (by omega)
      exact ⟨w1, h1, .inl rfl, hb.grown h3 (by omega) fun k hk => by cases hk; exact Nat.le_refl _, Nat.lt_of_lt_of_le (by omega) h3.size, fun h => absurd h (Nat.lt_irrefl 0)⟩
  · have hR' : RowP (w.alloc (.cells M 36)) (some ⟨b, off, none⟩) n x := RowP.ext (.inr ⟨b, off, rfl, hR⟩) hb
    have hcl : (cellsV ((List.range n).map x)).length = n * 3 := by rw [cellsV_length]; simp
    by_cases h0 : n = 0
    · subst h0
      obtain ⟨w1, h1, h2, h3⟩ := run_append_own_spare (P := Try.prog) (w.alloc (.cells M 36)) w.heap.size 22 ty 36 i0 3 Try.underlying22 hi hz1 w.heap.size 0 0 [] ⟨rfl, .inr ⟨_, 0, M, rfl, Nat.le_refl _, heap_alloc_new w _, Nat.le_refl _, by unfold maxLen; omega, by simpa using hM, by simp⟩⟩ ⟨b, off, none⟩ 0 c [] rfl (by intro j u hj; simp at hj) (by intro u hu; simp at hu) (by omega)
      exact ⟨w1, h1, .inl rfl, hb.grown h3 (by omega) fun k hk => by cases hk; exact Nat.le_refl _, Nat.lt_of_lt_of_le (by omega) h3.size, fun h => absurd h (Nat.lt_irrefl 0)⟩
    · obtain ⟨b2, off2, e, hR2⟩ := hR'.one (show 0 < n by omega)
      cases e
      obtain ⟨w1, h1, h2, h3⟩ := run_append_own_spare (P := Try.prog) (w.alloc (.cells M 36)) w.heap.size 22 ty 36 i0 3 Try.underlying22 hi hz1 w.heap.size 0 n [] ⟨rfl, .inr ⟨_, n, M, rfl, Nat.le_refl _, heap_alloc_new w _, Nat.zero_le _, by unfold maxLen; omega, hM, by simp⟩⟩ ⟨b, off, none⟩ n c (cellsV ((List.range n).map x)) hcl hR2.cells (cellsV_one _) (by omega)
      rw [Nat.zero_add] at h1 h2
      rw [List.nil_append] at h2
      have ho : OwnV w1 w.heap.size (.slice (some ⟨w.heap.size, 0, none⟩) n n) ((List.range n).map x) := by
        unfold OwnV
        simpa using h2
      obtain ⟨q, cap, he, hq, _, _⟩ := ho.row
      simp at he
      obtain ⟨rfl, rfl⟩ := he
      have hB : Blk w1 w.heap.size n := by
        obtain ⟨_, h4⟩ := ho
        rcases h4 with ⟨hv, _⟩ | ⟨g, cap', cur, hv, _, hg, hn', _, hc, _⟩
        · cases hv
        · simp at hv hn'
          obtain ⟨rfl, rfl⟩ := hv
          exact ⟨cur, hg, by omega⟩
      refine ⟨w1, h1, ?_, hb.grown h3 (by omega) fun k hk => by cases hk; exact Nat.le_refl _, Nat.lt_of_lt_of_le (by omega) h3.size, fun _ => hB⟩
      rw [List.length_map, List.length_range] at hq
      obtain ⟨b3, off3, e3, hA⟩ := hq.one (show 0 < n by omega)
      refine .inr ⟨b3, off3, e3, fun h => hA.lt h, fun i hi => ?_, fun i hi => ?_, fun i hi => ?_⟩
      · simpa [hi] using hA.c0 i hi
      · simpa [hi] using hA.c1 i hi
      · simpa [hi] using hA.c2 i hi

/-- The list of rows lies behind p. -/
def Rws.at_ (R : Rws) (w : World) (p : Option Addr) : Prop := ∀ k, k < R.n → ∃ b off, p = some ⟨b, off, none⟩ ∧ b < w.heap.size ∧ ∀ i, i < R.n → w.cell? ⟨b, off + i, none⟩ = some (R.v i)

/-- A copy of a list of rows: the rows themselves are the same. -/
theorem copy_rows (R : Rws) (w : World) (M : Array Value) (p : Option Addr) (c : Nat) (ty : TypeId) (hM : M.size = R.n) (hn : R.n ≤ 1073741824) (hp : R.at_ w p) :
    ∃ w1, (Builtin.append_ #[34, 34] ty #[.slice (some ⟨w.heap.size, 0, none⟩) 0 R.n, .slice p R.n c]).run Try.prog (w.alloc (.cells M 22)) = .ok (.slice (some ⟨w.heap.size, 0, none⟩) R.n R.n) w1 ∧ SW R w w.heap.size (Array.range R.n) w1 := by
  obtain ⟨i0, hi, hz0, hz1, hz2⟩ := info_parts Try.infoRow
  have hb : Below w.heap.size w (w.alloc (.cells M 22)) := (Below.refl _ w).alloc (Nat.le_refl _) _
  have hs : (w.alloc (.cells M 22)).heap.size = w.heap.size + 1 := by simp
  cases p with
  | none =>
    have h0 : R.n = 0 := by
      rcases Nat.eq_zero_or_pos R.n with h | h
      · exact h
      · obtain ⟨_, _, e, _⟩ := hp 0 h
        cases e
    rw [h0]
    refine ⟨_, run_append_nothing (P := Try.prog) _ 34 34 ty 22 i0 Try.underlying34 hi _ 0 0 (Nat.le_refl _) (.slice none 0 c) ⟨.inl ⟨_, Try.underlying34⟩, fun _ => rfl, run_firstCells_none _ _ 0 0 c, run_firstCells_none _ _ 0 0 c, by simp, by simp⟩, hb, Nat.le_refl _, ⟨M, heap_alloc_new w _, by simp, fun j hj => by simp at hj⟩, fun j hj => by simp at hj⟩
  | some ad =>
    obtain ⟨w1, h1, h2, h3⟩ := run_append_own_spare (P := Try.prog) (w.alloc (.cells M 22)) w.heap.size 34 ty 22 i0 1 Try.underlying34 hi hz1 w.heap.size 0 R.n [] ⟨rfl, .inr ⟨_, R.n, M, rfl, Nat.le_refl _, heap_alloc_new w _, Nat.zero_le _, by unfold maxLen; omega, by simpa using hM, by simp⟩⟩ ad R.n c ((List.range R.n).map R.v) (by simp)
      (by
        intro j u hj
        by_cases hj1 : j < R.n
        · simp [hj1] at hj
          subst hj
          obtain ⟨b, off, e, hb1, hc⟩ := hp j hj1
          cases e
          have hh := (hb.cell (p := ⟨b, _, none⟩) hb1).trans (hc j hj1)
          rw [show (⟨b, off, none⟩ : Addr).add j = ⟨b, off + j, none⟩ from by cases j <;> simp [Addr.add]]
          exact hh
        · rw [List.getElem?_eq_none (by simp; omega)] at hj
          cases hj)
      (by
        intro u hu
        simp at hu
        obtain ⟨a, _, rfl⟩ := hu
        rfl)
      (by omega)
    rw [Nat.zero_add] at h1 h2
    rw [List.nil_append] at h2
    obtain ⟨_, h2 | ⟨g, cap, cur, hv, _, hg, _, _, hcs, ht⟩⟩ := h2
    · cases h2.1
    · cases hv
      refine ⟨w1, h1, hb.grown h3 (by omega) fun k hk => by cases hk; exact Nat.le_refl _, Nat.le_refl _, ⟨cur, hg, by simp; omega, fun j hj => ?_⟩, fun j hj => ?_⟩
      · have hj' : j < R.n := by simpa using hj
        have := congrArg (fun l => l[j]?) ht
        simp [hj'] at this
        simpa [hj'] using this
      · have hj' : j < R.n := by simpa using hj
        simp [hj']

/-- An append whose run is known, in the walk. -/
theorem wp_run_append {w : World} {ops : Array Oper} {rest : List Oper} {o : Oper} {a : Act} {Q : Exit → Act → World → Prop} (hgd : o.guard = none) (s x : Operand) (t : TypeId)
    (ho : o.op = .call { callee := .builtin .append, args := #[s, x], argTypes := #[t, t] }) (v y r : Value) (w1 : World) (hs : a.eval s = v) (hx : a.eval x = y)
    (hr : (Builtin.append_ #[t, t] o.type #[v, y]).run Try.prog w = .ok r w1) (h : wpList Try.prog ops Q rest (a.put o.dst r) w1) : wpList Try.prog ops Q (o :: rest) a w := by
  refine wpList_plain hgd fun K hK => ?_
  unfold Oper.wp execOp
  simp only [ho, resolve, invoke, builtin, Sem.run_bind, Sem.run_pure, Result.andThen_ok, List.map_toArray, List.map_cons, List.map_nil, hs, hx, hr]
  exact hK _ _ h

end Go.Proofs.Ytmhcdmebienlpaa
