/- One row more among rows in order (the reference's Sort); what is in order, and the same rows, is the same list. No program is walked here. -/
import Derived.Test.YtmhcdmebienlpaaRowSame
namespace Go.Proofs.Ytmhcdmebienlpaa
open Go.RowKit
open Go.Sort (PermIn SortedIn SWO)

/-- The numbers e, one row's number put in at place k. -/
def put (e : List Nat) (k i : Nat) : List Nat := e.take k ++ i :: e.drop k
theorem put_perm (e : List Nat) (k i : Nat) : (put e k i).Perm (i :: e) := by
  unfold put
  refine List.perm_middle.trans ?_
  rw [List.take_append_drop]
theorem put_range {e : List Nat} {n : Nat} (k : Nat) (h : e.Perm (List.range n)) : (put e k n).Perm (List.range (n + 1)) := by
  rw [List.range_succ]
  exact (put_perm e k n).trans ((List.Perm.cons n h).trans (List.perm_append_comm (l₁ := [n])))
theorem put_len (e : List Nat) (k i : Nat) : (put e k i).length = e.length + 1 := by
  rw [(put_perm e k i).length_eq]; rfl

/-- In order. -/
def Rws.inOrder (R : Rws) (e : List Nat) : Prop := e.Pairwise (fun a b => R.cf a b ≤ 0)
theorem Rws.put_order (R : Rws) {e : List Nat} {k i : Nat} (h : R.inOrder e) (h1 : ∀ j, k ≤ j → (hj : j < e.length) → 0 < R.cf e[j] i) (hk : k ≤ e.length) (h2 : ∀ (_ : 0 < k) (hk : k - 1 < e.length), R.cf e[k - 1] i ≤ 0) : R.inOrder (put e k i) := by
  unfold Rws.inOrder put at *
  rw [List.pairwise_append]
  have hT : ∀ a ∈ e.take k, R.cf a i ≤ 0 := by
    intro a ha
    obtain ⟨j, hj, rfl⟩ := List.mem_iff_getElem.1 ha
    rw [List.length_take] at hj
    rw [List.getElem_take]
    by_cases hke : k - 1 < e.length
    · have h3 := h2 (by omega) hke
      by_cases c : j = k - 1
      · subst c; exact h3
      · have h4 := List.pairwise_iff_getElem.1 h j (k - 1) (by omega) hke (by omega)
        exact (R.ord e[j] e[k - 1] i).le h4 h3
    · omega
  have hD : ∀ b ∈ e.drop k, R.cf i b ≤ 0 := by
    intro b hb
    obtain ⟨j, hj, rfl⟩ := List.mem_iff_getElem.1 hb
    rw [List.length_drop] at hj
    rw [List.getElem_drop]
    have h3 := h1 (k + j) (by omega) (by omega)
    have h4 := (R.ord e[k + j] i e[k + j]).anti
    omega
  refine ⟨h.sublist (List.take_sublist k e), List.pairwise_cons.2 ⟨hD, h.sublist (List.drop_sublist k e)⟩, fun a ha b hb => ?_⟩
  rcases List.mem_cons.1 hb with rfl | hb
  · exact hT a ha
  · exact (R.ord a i b).le (hT a ha) (hD b hb)

/-- Rows in order, the same but for their places: the same list. -/
theorem sorted_list_same (R Q : Rws) (d : Array Nat) (e : List Nat) (hd : PermIn 0 R.n (Array.range R.n) d) (hds : SortedIn R.lt 0 R.n d) (he : e.Perm (List.range Q.n)) (hes : Q.inOrder e) (hP : ((List.range R.n).map R.row).Perm ((List.range Q.n).map Q.row)) : R.ord_ d = e.map Q.row := by
  have hs1 : d.size = R.n := by simpa using hd.1
  refine List.Perm.eq_of_pairwise (le := fun a b => 0 ≤ cmpL b a) (fun a b _ _ h1 h2 => cmpL_anti h2 h1) (R.sorted_list d hs1 hds) ?_ ?_
  · rw [List.pairwise_map]
    refine List.Pairwise.imp ?_ hes
    intro a b hab
    rw [← Q.cf_row Q]
    have := (Q.ord a b a).anti
    simp only [Rws.cf] at this hab
    omega
  · exact ((R.perm_list d hd).trans hP).trans (he.map Q.row).symm

end Go.Proofs.Ytmhcdmebienlpaa
