/- What stands in the order between two places found: the places of a value; a range. No program is walked here. -/
import Derived.Test.YtflbeccfdbjbhaaIxF
namespace Go.Proofs.Ytflbeccfdbjbhaa
open Go.RowKit

theorem ends_of {n : Nat} {cf : Nat → Int} (h : ∀ a b, a ≤ b → b < n → cf b < 0 → cf a < 0) : ∃ k, Ends n k cf := by
  induction n with
  | zero => exact ⟨0, Nat.le_refl _, fun t ht => by omega, fun t _ ht => by omega⟩
  | succ n ih =>
    obtain ⟨k, h1, h2, h3⟩ := ih (fun a b hab hb => h a b hab (by omega))
    by_cases hc : cf n < 0
    · exact ⟨n + 1, Nat.le_refl _, fun t ht => h t n (by omega) (by omega) hc, fun t h4 h5 => by omega⟩
    · refine ⟨k, by omega, h2, fun t h4 h5 => ?_⟩
      by_cases ht : t = n
      · subst ht; omega
      · exact h3 t h4 (by omega)

theorem ordAt_le {l : List Val} {a b : Nat} (hab : a ≤ b) (hb : b < l.length) : (ordAt l a).cmp (ordAt l b) ≤ 0 := by
  by_cases e : a = b
  · subst e; rw [cmp_self]; omega
  · have hbl : b < (allP l).length := by rw [allP_len]; exact hb
    have hal : a < (allP l).length := by omega
    have h := List.pairwise_iff_getElem.1 (allP_sorted l) a b hal hbl (by omega)
    rw [ordAt_get (List.getElem?_eq_getElem hal), ordAt_get (List.getElem?_eq_getElem hbl)]
    unfold IxLt at h
    omega
theorem cmp_le_lt {x y z : Val} (h : x.cmp y ≤ 0) (h2 : y.cmp z < 0) : x.cmp z < 0 := by
  rcases cmp_three x y with e | e | e
  · obtain ⟨_, o2, o3, o4, o5, o6⟩ := cmp_ord x y z
    omega
  · rw [cmp_zero e]; exact h2
  · omega
theorem cmp_le_le {x y z : Val} (h : x.cmp y ≤ 0) (h2 : y.cmp z ≤ 0) : x.cmp z ≤ 0 := by
  rcases cmp_three y z with e | e | e
  · have := cmp_le_lt h (show y.cmp z < 0 by omega); omega
  · rw [← cmp_zero e]; exact h
  · omega
theorem ends_from (l : List Val) (v : Val) : ∃ k, Ends l.length k (cfFrom l v) := ends_of fun _ _ hab hb h => cmp_le_lt (ordAt_le hab hb) h
theorem ends_behind (l : List Val) (v : Val) : ∃ k, Ends l.length k (cfBehind l v) := ends_of fun a b hab hb h => by
  unfold cfBehind at *
  split at h
  · omega
  · rw [if_neg]
    · omega
    · have := cmp_le_le (ordAt_le hab hb) (show (ordAt l b).cmp v ≤ 0 by omega)
      omega
theorem Ends.from_iff {l : List Val} {v : Val} {k t : Nat} (h : Ends l.length k (cfFrom l v)) (ht : t < l.length) : 0 ≤ (ordAt l t).cmp v ↔ k ≤ t := by
  constructor
  · intro h1
    rcases Nat.lt_or_ge t k with h2 | h2
    · have := h.ahead t h2; unfold cfFrom at this; omega
    · exact h2
  · intro h1
    exact h.from_ t h1 ht
theorem Ends.behind_iff {l : List Val} {v : Val} {k t : Nat} (h : Ends l.length k (cfBehind l v)) (ht : t < l.length) : (ordAt l t).cmp v ≤ 0 ↔ t < k := by
  constructor
  · intro h1
    rcases Nat.lt_or_ge t k with h2 | h2
    · exact h2
    · have := h.from_ t h2 ht
      unfold cfBehind at this
      rw [if_neg (by omega)] at this
      omega
  · intro h1
    have := h.ahead t h1
    unfold cfBehind at this
    split at this
    · omega
    · omega

theorem filter_mid {α : Type} (p : α → Bool) : ∀ (l : List α) (a b : Nat), (∀ t x, l[t]? = some x → p x = (decide (a ≤ t) && decide (t < b))) → l.filter p = (l.take b).drop a
  | [], a, b, _ => by simp
  | x :: l, a, 0, h => by
    have : (x :: l).filter p = [] := List.filter_eq_nil_iff.2 fun y hy => by
      obtain ⟨t, ht⟩ := List.getElem?_of_mem hy
      rw [h t y ht]
      simp
    rw [this]; simp
  | x :: l, 0, b + 1, h => by
    have h0 : p x = true := by rw [h 0 x rfl]; simp
    rw [List.filter_cons, h0, List.take_succ_cons]
    simp only [if_true, List.drop_zero]
    rw [filter_mid p l 0 b (fun t y hy => by rw [h (t + 1) y (by simpa using hy)]; simp)]
    all_goals rfl
  | x :: l, a + 1, b + 1, h => by
    have h0 : p x = false := by rw [h 0 x rfl]; simp
    rw [List.filter_cons, h0, List.take_succ_cons, List.drop_succ_cons]
    simp only [Bool.false_eq_true, if_false]
    rw [filter_mid p l a b (fun t y hy => by rw [h (t + 1) y (by simpa using hy)]; simp)]
    all_goals rfl

/-- The places of a value stand side by side in the order. -/
theorem eqP_mid {l : List Val} {v : Val} {a b : Nat} (hk : v.k ≠ 0) (ha : Ends l.length a (cfFrom l v)) (hb : Ends l.length b (cfBehind l v)) : eqP l v = ((allP l).take b).drop a ∧ a ≤ b := by
  constructor
  · rw [← filter_mid (fun i => decide ((valAt l i).cmp v = 0)) (allP l) a b fun t x hx => ?_]
    · unfold eqP
      rw [if_neg hk]
      refine List.Perm.eq_of_pairwise (le := fun (i k : Nat) => i < k) (fun x y _ _ h1 h2 => by omega) (List.pairwise_lt_range.filter _) ?_ ((allP_perm l).filter _).symm
      refine (List.Pairwise.and_mem.1 ((allP_sorted l).filter _)).imp ?_
      rintro i j ⟨hi, hj, h⟩
      simp only [List.mem_filter, decide_eq_true_eq] at hi hj
      unfold IxLt at h
      rw [cmp_zero hi.2, cmp_zero hj.2, cmp_self] at h
      omega
    · have ht : t < l.length := by rw [← allP_len]; exact (List.getElem?_eq_some_iff.1 hx).1
      have h1 := ha.from_iff ht
      have h2 := hb.behind_iff ht
      rw [ordAt_get hx] at h1 h2
      rw [Bool.eq_iff_iff, Bool.and_eq_true, decide_eq_true_eq, decide_eq_true_eq, decide_eq_true_eq, ← h1, ← h2]
      omega
  · rcases Nat.lt_or_ge b a with h | h
    · exfalso
      have hl : b < l.length := Nat.lt_of_lt_of_le h ha.le
      have h1 := ha.from_iff hl
      have h2 := hb.behind_iff hl
      omega
    · exact h

/-- What stands between two places of the order, but NULL. -/
def between (l : List Val) (a b : Nat) : List Nat := (((allP l).take b).drop a).filter fun i => decide ((valAt l i).k ≠ 0)
def okLo (lo : Option Val) (x : Val) : Bool := match lo with | some y => decide (0 ≤ x.cmp y) | none => true
def okHi (hi : Option Val) (x : Val) : Bool := match hi with | some y => decide (x.cmp y ≤ 0) | none => true
theorem rangeP_eq (l : List Val) (lo hi : Option Val) : rangeP l lo hi = (allP l).filter fun i => decide ((valAt l i).k ≠ 0) && okLo lo (valAt l i) && okHi hi (valAt l i) := by
  cases lo <;> cases hi <;> rfl
theorem rangeP_mid {l : List Val} {lo hi : Option Val} {a b : Nat} (ha : ∀ t, t < l.length → okLo lo (ordAt l t) = decide (a ≤ t)) (hb : ∀ t, t < l.length → okHi hi (ordAt l t) = decide (t < b)) : rangeP l lo hi = between l a b := by
  rw [rangeP_eq]
  unfold between
  rw [← filter_mid (fun i => okLo lo (valAt l i) && okHi hi (valAt l i)) (allP l) a b fun t x hx => ?_]
  · rw [List.filter_filter]
    refine List.filter_congr fun i _ => ?_
    rw [Bool.and_assoc]
  · have ht : t < l.length := by rw [← allP_len]; exact (List.getElem?_eq_some_iff.1 hx).1
    rw [← ha t ht, ← hb t ht, ordAt_get hx]
theorem lo_ok {l : List Val} {v : Val} {a : Nat} (h : Ends l.length a (cfFrom l v)) (t : Nat) (ht : t < l.length) : okLo (some v) (ordAt l t) = decide (a ≤ t) := by
  unfold okLo
  rw [Bool.eq_iff_iff, decide_eq_true_eq, decide_eq_true_eq]
  exact h.from_iff ht
theorem hi_ok {l : List Val} {v : Val} {b : Nat} (h : Ends l.length b (cfBehind l v)) (t : Nat) (ht : t < l.length) : okHi (some v) (ordAt l t) = decide (t < b) := by
  unfold okHi
  rw [Bool.eq_iff_iff, decide_eq_true_eq, decide_eq_true_eq]
  exact h.behind_iff ht
theorem between_none {l : List Val} {a b : Nat} (h : b ≤ a) : between l a b = [] := by
  unfold between
  rw [List.drop_eq_nil_of_le (by rw [List.length_take]; omega)]
  rfl
theorem between_step {l : List Val} {a i n : Nat} (ha : a ≤ i) (hx : (allP l)[i]? = some n) : between l a (i + 1) = between l a i ++ if (valAt l n).k ≠ 0 then [n] else [] := by
  have hl := (List.getElem?_eq_some_iff.1 hx).1
  unfold between
  rw [List.take_add_one, hx, List.drop_append_of_le_length (by rw [List.length_take]; omega), List.filter_append]
  congr 1
  simp only [Option.toList_some, List.filter_cons, List.filter_nil]
  by_cases h : (valAt l n).k = 0 <;> simp [h]
theorem between_len (l : List Val) (a b : Nat) : (between l a b).length ≤ l.length := by
  unfold between
  refine Nat.le_trans (List.length_filter_le _ _) ?_
  rw [List.length_drop, List.length_take, allP_len]
  omega

end Go.Proofs.Ytflbeccfdbjbhaa
