/- Numbers that a call gathers in a slice of its own; the reference's Next whatever the numbers. -/
import Derived.Test.YtklfccdjmlmmgaaPkR
import Derived.Test.YtklfccdjmlmmgaaOut
import Derived.Deep.Upon
namespace Go.Proofs.Ytklfccdjmlmmgaa
open Go.RowKit

theorem Try.infoInt : (Try.prog.info? 3).map (fun i => (i.zero, i.size, i.bytes)) = some (some (.int .i64 0), 1, 8) := by kernel_rfl

/-- The slice v holds the numbers l, in a block of the call's own. -/
def OwnI (w : World) (base : Nat) (v : Value) (l : List Int) : Prop := w.ownsRow base 3 1 v l.length (l.map (Value.int .i64))
theorem OwnI.nil (w : World) (base : Nat) : OwnI w base (.slice none 0 0) [] := World.ownsRow_nil _ _ _ _
theorem OwnI.later {w w' : World} {base : Nat} {v : Value} {l : List Int} (h : OwnI w base v l) (hb : Below w.heap.size w w') : OwnI w' base v l := by
  obtain ⟨h1, h2⟩ := h
  refine ⟨h1, ?_⟩
  rcases h2 with h2 | ⟨g, cap, cur, hv, hg, hh, r⟩
  · exact .inl h2
  · have hlt : g < w.heap.size := by
      rcases Nat.lt_or_ge g w.heap.size with h | h
      · exact h
      · rw [Array.getElem?_eq_none h] at hh; cases hh
    exact .inr ⟨g, cap, cur, hv, hg, by rw [hb.block g hlt]; exact hh, r⟩
/-- Only blocks below the base have changed. -/
theorem OwnI.keep {S : Nat → Prop} {w w' : World} {base : Nat} {v : Value} {l : List Int} (h : OwnI w base v l) (o : Out S w w') (hS : ∀ k, S k → k < base) : OwnI w' base v l := by
  obtain ⟨h1, h2⟩ := h
  refine ⟨h1, ?_⟩
  rcases h2 with h2 | ⟨g, cap, cur, hv, hg, hh, r⟩
  · exact .inl h2
  · have hlt : g < w.heap.size := by
      rcases Nat.lt_or_ge g w.heap.size with h | h
      · exact h
      · rw [Array.getElem?_eq_none h] at hh; cases hh
    exact .inr ⟨g, cap, cur, hv, hg, by rw [o.block g hlt (fun k => by have := hS g k; omega)]; exact hh, r⟩
theorem OwnI.kept {S : Nat → Prop} {w w' : World} {base : Nat} {v : Value} {l : List Int} (h : OwnI w base v l) (o : Out S w w') (hS : ∀ k, S k → v.ownBlock ≠ some k) : OwnI w' base v l := by
  obtain ⟨h1, h2⟩ := h
  refine ⟨h1, ?_⟩
  rcases h2 with h2 | ⟨g, cap, cur, hv, hg, hh, r⟩
  · exact .inl h2
  · have hlt : g < w.heap.size := by
      rcases Nat.lt_or_ge g w.heap.size with h | h
      · exact h
      · rw [Array.getElem?_eq_none h] at hh; cases hh
    exact .inr ⟨g, cap, cur, hv, hg, by rw [o.block g hlt (fun k => hS g k (by rw [hv]; rfl))]; exact hh, r⟩
theorem OwnI.base_le {w : World} {b b' : Nat} {v : Value} {l : List Int} (h : OwnI w b v l) (hb : b' ≤ b) : OwnI w b' v l := by
  obtain ⟨h1, h2⟩ := h
  refine ⟨h1, ?_⟩
  rcases h2 with h2 | ⟨g, cap, cur, hv, hg, r⟩
  · exact .inl h2
  · exact .inr ⟨g, cap, cur, hv, Nat.le_trans hb hg, r⟩
theorem OwnI.src {w : World} {base : Nat} {v : Value} {K : List Int} (h : OwnI w base v K) : ∃ p cap, v = .slice p K.length cap ∧ K.length ≤ cap ∧ cap ≤ maxLen ∧ ∀ i, i < K.length → ∃ g, p = some ⟨g, 0, none⟩ ∧ base ≤ g ∧ g < w.heap.size ∧ ∀ j u, K[j]? = some u → w.cell? ⟨g, j, none⟩ = some (.int .i64 u) := by
  obtain ⟨h1, h2⟩ := h
  rcases h2 with ⟨rfl, h0⟩ | ⟨g, cap, cur, rfl, hb, hg, hn, hm, hc, ht⟩
  · exact ⟨none, 0, by rw [h0], by omega, by unfold maxLen; omega, fun i hi => by omega⟩
  · refine ⟨some ⟨g, 0, none⟩, cap, rfl, hn, hm, fun i hi => ⟨g, rfl, hb, ?_, fun j u hu => ?_⟩⟩
    · rcases Nat.lt_or_ge g w.heap.size with h | h
      · exact h
      · rw [Array.getElem?_eq_none h] at hg; cases hg
    · have hj : j < K.length := by
        rcases Nat.lt_or_ge j K.length with h | h
        · exact h
        · rw [List.getElem?_eq_none h] at hu; cases hu
      rw [Lib.cell_of_heap hg]
      have := congrArg (fun l => l[j]?) ht
      have hKj : K[j] = u := by rw [List.getElem?_eq_getElem hj] at hu; simpa using hu
      simp [hj] at this
      rw [hKj] at this
      simpa [hj] using this
theorem OwnI.srcI {w : World} {base : Nat} {v : Value} {K : List Int} (h : OwnI w base v K) : ∃ p cap, v = .slice p K.length cap ∧ K.length ≤ cap ∧ cap ≤ 9223372036854775807 ∧ SrcI w w.heap.size p K := by
  obtain ⟨p, cap, h1, h2, h3, h4⟩ := h.src
  refine ⟨p, cap, h1, h2, by unfold maxLen at h3; omega, fun i hi => ?_⟩
  obtain ⟨g, h5, _, h6, h7⟩ := h4 i hi
  exact ⟨g, 0, h5, h6, fun j u hu => by rw [Nat.zero_add]; exact h7 j u hu⟩

theorem SrcI.drop {w : World} {B g off : Nat} {L : List Int} (h : SrcI w B (some ⟨g, off, none⟩) L) (n : Nat) : SrcI w B (some ⟨g, off + n, none⟩) (L.drop n) := fun i hi => by
  rw [List.length_drop] at hi
  obtain ⟨g', off', h1, h2, h3⟩ := h i (by omega)
  obtain ⟨rfl, rfl⟩ : g = g' ∧ off = off' := by simpa using h1
  refine ⟨g, off + n, rfl, h2, fun j u hu => ?_⟩
  rw [List.getElem?_drop] at hu
  rw [Nat.add_assoc]
  exact h3 (n + j) u hu

theorem addr_more_i (b off n : Nat) : (⟨b, off, none⟩ : Addr).add n = ⟨b, off + n, none⟩ := by
  unfold Addr.add
  split
  · rename_i h; subst h; rfl
  · rfl
theorem wp_run_append_i {w : World} {ops : Array Oper} {rest : List Oper} {o : Oper} {a : Act} {Q : Exit → Act → World → Prop} (hgd : o.guard = none) (s x : Operand) (t : TypeId)
    (ho : o.op = .call { callee := .builtin .append, args := #[s, x], argTypes := #[t, t] }) (v y r : Value) (w1 : World) (hs : a.eval s = v) (hx : a.eval x = y)
    (hr : (Builtin.append_ #[t, t] o.type #[v, y]).run Try.prog w = .ok r w1) (h : wpList Try.prog ops Q rest (a.put o.dst r) w1) : wpList Try.prog ops Q (o :: rest) a w := by
  refine wpList_plain hgd fun K hK => ?_
  unfold Oper.wp execOp
  simp only [ho, resolve, invoke, builtin, Sem.run_bind, Sem.run_pure, Result.andThen_ok, List.map_toArray, List.map_cons, List.map_nil, hs, hx, hr]
  exact hK _ _ h
theorem wp_append_ints {w : World} {ops : Array Oper} {rest : List Oper} {o : Oper} {a : Act} {Q : Exit → Act → World → Prop} (hgd : o.guard = none) (s x : Operand)
    (ho : o.op = .call { callee := .builtin .append, args := #[s, x], argTypes := #[22, 22] }) (base : Nat) (v : Value) (l : List Int) (hs : a.eval s = v) (hown : OwnI w base v l)
    (p : Option Addr) (n c : Nat) (m : List Int) (hn : n = m.length) (hx : a.eval x = .slice p n c) (hR : SrcI w w.heap.size p m) (hlen : (l.length + m.length) * 8 ≤ 140737488355328) (hbase : base ≤ w.heap.size)
    (h : ∀ v' w', OwnI w' base v' (l ++ m) → Below base w w' → Out (fun k => v.ownBlock = some k) w w' → wpList Try.prog ops Q rest (a.put o.dst v') w') : wpList Try.prog ops Q (o :: rest) a w := by
  subst hn
  obtain ⟨i0, hi, hz0, hz1, hz2⟩ := info_parts Try.infoInt
  have go : ∀ ad : Addr, p = some ad → (∀ j u, m[j]? = some u → w.cell? (ad.add j) = some (.int .i64 u)) → wpList Try.prog ops Q (o :: rest) a w := by
    intro ad hp hcells
    subst hp
    refine wpList_append_own w hgd s x 22 ho base 3 i0 (.int .i64 0) 1 8 Try.underlying22 hi hz0 hz1 hz2 rfl (by decide) v l.length _ hs hown ad m.length c (m.map (Value.int .i64)) hx (by simp) ?_ ?_ (by unfold maxLen; omega) (by omega) hbase ?_
    · intro j u hj
      rw [List.getElem?_map] at hj
      cases e : m[j]? with
      | none => rw [e] at hj; cases hj
      | some y =>
        rw [e] at hj
        simp at hj
        subst hj
        exact hcells j y e
    · intro u hu
      obtain ⟨y, _, rfl⟩ := List.mem_map.1 hu
      rfl
    · intro v' w' h1 h2 _
      refine h v' w' ?_ ((Below.refl _ _).grown h2 hbase fun k hk => (hown.lt _ hk).1) (Out.grown h2 fun k hk => hk)
      unfold OwnI
      rw [List.length_append, List.map_append]
      exact h1
  by_cases h0 : 0 < m.length
  · obtain ⟨b, off, rfl, _, hc⟩ := hR 0 h0
    exact go _ rfl fun j u hj => by
      rw [addr_more_i]
      exact hc j u hj
  · obtain rfl : m = [] := List.length_eq_zero_iff.1 (by omega)
    cases p with
    | none =>
      obtain ⟨q, cap, rfl, hcap, _, _⟩ := hown.src
      have hr := run_append_nothing (P := Try.prog) w 22 22 o.type 3 i0 Try.underlying22 hi q l.length cap hcap (.slice none 0 c) ⟨.inl ⟨_, Try.underlying22⟩, fun _ => rfl, run_firstCells_none w _ 0 0 c, run_firstCells_none w.drew _ 0 0 c, by simp, by simp⟩
      exact wp_run_append_i hgd s x _ ho _ _ _ _ hs hx hr (h _ _ (by simpa using hown) (Below.refl _ _) (Out.refl _ _))
    | some ad => exact go ad rfl (fun j u hj => by simp at hj)

theorem pickN_lt (L : List Int) (n : Int) (hn : 0 < n) : 0 ≤ pickN L n ∧ pickN L n < n := by
  unfold pickN
  rw [if_neg (by omega)]
  cases L with
  | nil => exact ⟨Int.le_refl _, hn⟩
  | cons c l => exact ⟨Int.emod_nonneg _ (by omega), Int.emod_lt_of_pos _ hn⟩

theorem rnext_any (M0 B p : Nat) (L : List Int) (n : Int) (w : World) (hR : RPk w M0 B p L) (hn2 : n ≤ 9223372036854775807) :
    Calls Try.prog 12 #[.pointer (some ⟨p, 0, none⟩), .int .i64 n] w fun e w' => e = .returned (.int .i64 (pickN L n)) ∧ RPk w' M0 B p (pickL L n) ∧ Out (fun k => k = p) w w' := by
  by_cases hn : n < 1
  · refine (rnext_none p n w hn).mono ?_
    rintro e w' ⟨rfl, rfl⟩
    unfold pickN pickL
    rw [if_pos hn, if_pos hn]
    exact ⟨rfl, hR, Out.refl _ _⟩
  · unfold pickN pickL
    rw [if_neg hn, if_neg hn]
    cases L with
    | nil =>
      refine (rnext_empty p n w hR hn).mono ?_
      rintro e w' ⟨rfl, rfl⟩
      exact ⟨rfl, hR, Out.refl _ _⟩
    | cons c l =>
      refine (rnext_some p c l n w hR hn hn2).mono ?_
      rintro e w' ⟨rfl, h, v, rfl⟩
      exact ⟨rfl, h, Out.set ⟨p, 0, none⟩ v rfl⟩

end Go.Proofs.Ytklfccdjmlmmgaa
