/- The places of a value, and how many different values there are, as a list grows by one. No program is walked here. -/
import Derived.Test.YtflbeccfdbjbhaaIxC
namespace Go.Proofs.Ytflbeccfdbjbhaa
open Go.RowKit

theorem valAt_take {l : List Val} {i j : Nat} (h : j < i) : valAt (l.take i) j = valAt l j := by unfold valAt; rw [List.getElem?_take, if_pos h]
theorem take_len {l : List Val} {i : Nat} (h : i ≤ l.length) : (l.take i).length = i := by rw [List.length_take]; omega
theorem valAt_at {l : List Val} {i : Nat} {x : Val} (h : l[i]? = some x) : valAt l i = x := by unfold valAt; rw [h]; rfl

theorem filter_range {f g : Nat → Bool} {n : Nat} (h : ∀ i, i < n → f i = g i) : (List.range n).filter f = (List.range n).filter g := List.filter_congr fun i hi => h i (List.mem_range.1 hi)
theorem eqP_step {l : List Val} {i : Nat} {x : Val} (h : l[i]? = some x) (v : Val) : eqP (l.take (i + 1)) v = eqP (l.take i) v ++ if v.k ≠ 0 ∧ x.cmp v = 0 then [i] else [] := by
  have hl := (List.getElem?_eq_some_iff.1 h).1
  unfold eqP
  by_cases hk : v.k = 0
  · simp [hk]
  · rw [if_neg hk, if_neg hk, take_len (by omega), take_len (by omega), List.range_succ, List.filter_append]
    congr 1
    · refine filter_range fun j hj => ?_
      rw [valAt_take (by omega), valAt_take hj]
    · rw [List.filter_cons, List.filter_nil, valAt_take (by omega), valAt_at h]
      by_cases hc : x.cmp v = 0 <;> simp [hk, hc]
theorem eqP_zero (v : Val) : eqP ([] : List Val) v = [] := by unfold eqP; simp
theorem eqP_mem {l : List Val} {v : Val} {i : Nat} : i ∈ eqP l v ↔ v.k ≠ 0 ∧ i < l.length ∧ (valAt l i).cmp v = 0 := by
  unfold eqP
  by_cases hk : v.k = 0
  · simp [hk]
  · simp [hk]
theorem distP_zero : distP [] = 0 := rfl
theorem distP_step {l : List Val} {i : Nat} {x : Val} (h : l[i]? = some x) : distP (l.take (i + 1)) = distP (l.take i) + if x.k ≠ 0 ∧ eqP (l.take i) x = [] then 1 else 0 := by
  have hl := (List.getElem?_eq_some_iff.1 h).1
  have e1 : ∀ k, k ≤ l.length → ((List.range (l.take k).length).filter fun i => decide ((valAt (l.take k) i).k ≠ 0 ∧ ∀ j, j < i → (valAt (l.take k) j).cmp (valAt (l.take k) i) ≠ 0)) = (List.range k).filter fun i => decide ((valAt l i).k ≠ 0 ∧ ∀ j, j < i → (valAt l j).cmp (valAt l i) ≠ 0) := fun k hk => by
    rw [take_len hk]
    refine filter_range fun j hj => ?_
    rw [valAt_take hj]
    congr 1
    refine propext (and_congr_right fun _ => forall_congr' fun m => ?_)
    refine ⟨fun h hm => ?_, fun h hm => ?_⟩
    · have := h hm; rwa [valAt_take (by omega)] at this
    · rw [valAt_take (by omega)]; exact h hm
  unfold distP
  rw [e1 (i + 1) (by omega), e1 i (by omega), List.range_succ, List.filter_append, List.length_append, List.filter_cons, List.filter_nil, valAt_at h]
  congr 1
  have e2 : (x.k ≠ 0 ∧ ∀ j, j < i → (valAt l j).cmp x ≠ 0) ↔ (x.k ≠ 0 ∧ eqP (l.take i) x = []) := by
    refine and_congr_right fun hk => ⟨fun h => ?_, fun h j hj hc => ?_⟩
    · rw [List.eq_nil_iff_forall_not_mem]
      intro j hj
      rw [eqP_mem, take_len (by omega)] at hj
      obtain ⟨_, h2, h3⟩ := hj
      rw [valAt_take h2] at h3
      exact h j h2 h3
    · have : j ∈ eqP (l.take i) x := by
        rw [eqP_mem, take_len (by omega), valAt_take hj]
        exact ⟨hk, hj, hc⟩
      rw [h] at this
      cases this
  by_cases hx : x.k ≠ 0 ∧ eqP (l.take i) x = []
  · rw [if_pos hx, decide_eq_true (e2.2 hx)]; rfl
  · rw [if_neg hx, decide_eq_false (fun h => hx (e2.1 h))]; rfl

/-- Different values, as many as there are places of values that are not NULL, at most. -/
theorem distP_le (l : List Val) : distP l ≤ ((allP l).filter fun i => decide ((valAt l i).k ≠ 0)).length := by
  rw [((allP_perm l).filter _).length_eq]
  unfold distP
  rw [← List.countP_eq_length_filter, ← List.countP_eq_length_filter]
  refine List.countP_mono_left fun i _ hi => ?_
  simp only [decide_eq_true_eq] at hi ⊢
  exact hi.1

end Go.Proofs.Ytflbeccfdbjbhaa
