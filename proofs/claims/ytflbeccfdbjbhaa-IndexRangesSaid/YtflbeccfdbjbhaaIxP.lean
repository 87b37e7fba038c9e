/- An index, told by a list of values: the places in the order of their values; the places of a value; what lies between. No program is walked here. -/
import Derived.Test.YtflbeccfdbjbhaaValO
namespace Go.Proofs.Ytflbeccfdbjbhaa
open Go.RowKit

/-- The value at a place. -/
def valAt (l : List Val) (i : Nat) : Val := (l[i]?).getD nul
/-- Place i stands ahead of place k: its value is less, or the same and it is the lesser place. -/
def IxLt (l : List Val) (i k : Nat) : Prop := (valAt l i).cmp (valAt l k) < 0 ∨ ((valAt l i).cmp (valAt l k) = 0 ∧ i < k)
def ixLe (l : List Val) (i k : Nat) : Bool := decide ((valAt l i).cmp (valAt l k) < 0) || (decide ((valAt l i).cmp (valAt l k) = 0) && decide (i ≤ k))
theorem ixLe_iff {l : List Val} {i k : Nat} : ixLe l i k = true ↔ (valAt l i).cmp (valAt l k) < 0 ∨ ((valAt l i).cmp (valAt l k) = 0 ∧ i ≤ k) := by
  unfold ixLe
  simp only [Bool.or_eq_true, Bool.and_eq_true, decide_eq_true_eq]
theorem cmp_anti (x y : Val) : y.cmp x = -(x.cmp y) := (cmp_ord x y x).anti
theorem ixLe_trans (l : List Val) (a b c : Nat) (h : ixLe l a b = true) (k : ixLe l b c = true) : ixLe l a c = true := by
  rw [ixLe_iff] at *
  have o := cmp_ord (valAt l a) (valAt l b) (valAt l c)
  have h1 := cmp_three (valAt l a) (valAt l b)
  have h2 := cmp_three (valAt l b) (valAt l c)
  have h3 := cmp_three (valAt l a) (valAt l c)
  rcases h with h | ⟨h, h'⟩
  · rcases k with k | ⟨k, k'⟩
    · obtain ⟨_, o2, o3, o4, o5, o6⟩ := o
      exact .inl (by omega)
    · rw [cmp_zero k] at h
      exact .inl h
  · rcases k with k | ⟨k, k'⟩
    · rw [← cmp_zero h] at k
      exact .inl k
    · rw [cmp_zero h]
      exact .inr ⟨k, by omega⟩
theorem ixLe_total (l : List Val) (a b : Nat) : (ixLe l a b || ixLe l b a) = true := by
  rw [Bool.or_eq_true, ixLe_iff, ixLe_iff, cmp_anti (valAt l a) (valAt l b)]
  have h1 := cmp_three (valAt l a) (valAt l b)
  omega

/-- All places, in the order of their values. -/
def allP (l : List Val) : List Nat := (List.range l.length).mergeSort (ixLe l)
theorem allP_perm (l : List Val) : (allP l).Perm (List.range l.length) := List.mergeSort_perm _ _
theorem allP_len (l : List Val) : (allP l).length = l.length := by rw [(allP_perm l).length_eq, List.length_range]
theorem allP_mem {l : List Val} {i : Nat} : i ∈ allP l ↔ i < l.length := by rw [(allP_perm l).mem_iff, List.mem_range]
theorem allP_sorted (l : List Val) : (allP l).Pairwise (IxLt l) := by
  have hnd : (allP l).Nodup := ((allP_perm l).nodup_iff).2 List.nodup_range
  refine ((List.pairwise_mergeSort (ixLe_trans l) (ixLe_total l) (List.range l.length)).and hnd).imp ?_
  rintro a b ⟨h1, h2⟩
  rw [ixLe_iff] at h1
  rcases h1 with h | ⟨h, h'⟩
  · exact .inl h
  · exact .inr ⟨h, by omega⟩
/-- .. and whatever list has all places, rising so, is this one. -/
theorem allP_only {l : List Val} {A : List Nat} (hp : A.Perm (List.range l.length)) (hs : A.Pairwise (IxLt l)) : A = allP l := by
  refine List.Perm.eq_of_pairwise (le := IxLt l) (fun a b _ _ h1 h2 => ?_) hs (allP_sorted l) (hp.trans (allP_perm l).symm)
  exfalso
  have ha := cmp_anti (valAt l a) (valAt l b)
  rcases h1 with h1 | ⟨h1, h1'⟩ <;> rcases h2 with h2 | ⟨h2, h2'⟩ <;> omega

/-- The places of a value, in ascending order: none of NULL. -/
def eqP (l : List Val) (v : Val) : List Nat := if v.k = 0 then [] else (List.range l.length).filter fun i => decide ((valAt l i).cmp v = 0)
/-- The places of values that are not NULL, not less than lo, not greater than hi, in the order of the values. -/
def rangeP (l : List Val) (lo hi : Option Val) : List Nat := (allP l).filter fun i => decide ((valAt l i).k ≠ 0) && (match lo with | some x => decide (0 ≤ (valAt l i).cmp x) | none => true) && (match hi with | some x => decide ((valAt l i).cmp x ≤ 0) | none => true)
theorem rangeP_none (l : List Val) : rangeP l none none = (allP l).filter fun i => decide ((valAt l i).k ≠ 0) := by
  unfold rangeP
  simp

end Go.Proofs.Ytflbeccfdbjbhaa
