/- Two sorted arrangements of the same rows are the same. No program is walked here. -/
import Derived.Test.YtmhcdmebienlpaaRowOrd
namespace Go.Proofs.Ytmhcdmebienlpaa
open Go.RowKit
open Go.Sort (PermIn SortedIn SWO)

theorem cmpFrom_congr {la lb : Nat} {x y x' y' : Nat → Val} (hx : ∀ i, i < la → x i = x' i) (hy : ∀ i, i < lb → y i = y' i) : ∀ (f k : Nat), f + k = min la lb → cmpFrom la lb x y f k = cmpFrom la lb x' y' f k
  | 0, _, _ => rfl
  | f + 1, k, h => by rw [cmpFrom, cmpFrom, hx k (by omega), hy k (by omega), cmpFrom_congr hx hy f (k + 1) (by omega)]
theorem cmpRow_congr {la lb : Nat} {x y x' y' : Nat → Val} (hx : ∀ i, i < la → x i = x' i) (hy : ∀ i, i < lb → y i = y' i) : cmpRow la lb x y = cmpRow la lb x' y' := cmpFrom_congr hx hy _ _ (by omega)

/-- A row's values, as a list. -/
def Rws.row (R : Rws) (i : Nat) : List Val := (List.range (R.l i)).map (R.x i)
theorem Rws.row_len (R : Rws) (i : Nat) : (R.row i).length = R.l i := by simp [Rws.row]
theorem Rws.row_get (R : Rws) (i k : Nat) (hk : k < R.l i) : (R.row i)[k]?.getD nul = R.x i k := by simp [Rws.row, hk]
/-- Lists of values, by the order of rows. -/
def cmpL (a b : List Val) : Int := cmpRow a.length b.length (fun i => a[i]?.getD nul) (fun i => b[i]?.getD nul)
theorem Rws.cf_row (R Q : Rws) (i k : Nat) : cmpRow (R.l i) (Q.l k) (R.x i) (Q.x k) = cmpL (R.row i) (Q.row k) := by
  unfold cmpL
  rw [R.row_len, Q.row_len]
  exact cmpRow_congr (fun j hj => (R.row_get i j hj).symm) (fun j hj => (Q.row_get k j hj).symm)
theorem cmpL_anti {a b : List Val} (h1 : 0 ≤ cmpL a b) (h2 : 0 ≤ cmpL b a) : a = b := by
  have := (cmpRow_ord a.length b.length a.length (fun i => a[i]?.getD nul) (fun i => b[i]?.getD nul) (fun i => a[i]?.getD nul)).anti
  have h0 : cmpL a b = 0 := by unfold cmpL at *; omega
  have h3 := cmpRow_zero (n := a.length) (m := b.length) (x := fun i => a[i]?.getD nul) (y := fun i => b[i]?.getD nul)
  rw [show cmpRow a.length b.length (fun i => a[i]?.getD nul) (fun i => b[i]?.getD nul) = 0 from h0] at h3
  obtain ⟨e, h⟩ := same1_iff.1 h3.symm
  apply List.ext_getElem e
  intro i hi hi'
  have := h i hi
  simpa [hi, hi'] using this

/-- The rows in the order d. -/
def Rws.ord_ (R : Rws) (d : Array Nat) : List (List Val) := d.toList.map R.row
theorem Rws.sorted_list (R : Rws) (d : Array Nat) (hd : d.size = R.n) (hs : SortedIn R.lt 0 R.n d) : (R.ord_ d).Pairwise (fun a b => 0 ≤ cmpL b a) := by
  rw [List.pairwise_iff_getElem]
  intro i j hi hj hij
  have hi' : i < d.size := by simpa [Rws.ord_] using hi
  have hj' : j < d.size := by simpa [Rws.ord_] using hj
  have h := hs i j (Nat.zero_le _) hij (by omega)
  simp only [Rws.ord_, List.getElem_map, Array.getElem_toList]
  rw [← R.cf_row R]
  simp only [hi', hj', getElem!_pos] at h
  have h' : ¬ cmpRow (R.l d[j]) (R.l d[i]) (R.x d[j]) (R.x d[i]) < 0 := of_decide_eq_false h
  omega
theorem Rws.perm_list (R : Rws) (d : Array Nat) (hp : PermIn 0 R.n (Array.range R.n) d) : (R.ord_ d).Perm ((List.range R.n).map R.row) := by
  obtain ⟨h1, _, h2⟩ := hp
  have hs : d.size = R.n := by simpa using h1
  have e1 : d.extract 0 R.n = d := by rw [← hs]; exact Array.extract_size
  have e2 : (Array.range R.n).extract 0 R.n = Array.range R.n := by simp
  rw [e1, e2] at h2
  have := h2.map R.row
  simpa [Rws.ord_] using this

/-- Sorted arrangements of rows that are the same but for their order are the same. -/
theorem sorted_same (R Q : Rws) (d e : Array Nat) (hd : PermIn 0 R.n (Array.range R.n) d) (hds : SortedIn R.lt 0 R.n d) (he : PermIn 0 Q.n (Array.range Q.n) e) (hes : SortedIn Q.lt 0 Q.n e) (hP : ((List.range R.n).map R.row).Perm ((List.range Q.n).map Q.row)) : R.ord_ d = Q.ord_ e := by
  have hs1 : d.size = R.n := by simpa using hd.1
  have hs2 : e.size = Q.n := by simpa using he.1
  refine List.Perm.eq_of_pairwise (le := fun a b => 0 ≤ cmpL b a) (fun a b _ _ h1 h2 => cmpL_anti h2 h1) (R.sorted_list d hs1 hds) (Q.sorted_list e hs2 hes) ?_
  exact ((R.perm_list d hd).trans hP).trans (Q.perm_list e he).symm

theorem Rws.ord_at (R : Rws) (d : Array Nat) (i : Nat) (hi : i < d.size) : (R.ord_ d)[i]? = some (R.row d[i]!) := by
  simp [Rws.ord_, hi]
theorem range_rev {α : Type} (f : Nat → α) (n : Nat) : (List.range n).map (fun i => f (n - 1 - i)) = ((List.range n).map f).reverse := by
  apply List.ext_getElem
  · simp
  · intro i h1 h2
    simp

theorem rows_of_eq {R Q : Rws} {i k : Nat} (h : R.row i = Q.row k) : R.l i = Q.l k ∧ ∀ j, j < R.l i → R.x i j = Q.x k j := by
  have e : R.l i = Q.l k := by rw [← R.row_len, h, Q.row_len]
  exact ⟨e, fun j hj => by rw [← R.row_get i j hj, h, Q.row_get k j (by omega)]⟩

/-- As 'sorted_same', place by place. -/
theorem sorted_each (R Q : Rws) (d e : Array Nat) (hd : PermIn 0 R.n (Array.range R.n) d) (hds : SortedIn R.lt 0 R.n d) (he : PermIn 0 Q.n (Array.range Q.n) e) (hes : SortedIn Q.lt 0 Q.n e) (hP : ((List.range R.n).map R.row).Perm ((List.range Q.n).map Q.row)) (i : Nat) (hi : i < R.n) (hi' : i < Q.n) : R.row d[i]! = Q.row e[i]! := by
  have hs1 : d.size = R.n := by simpa using hd.1
  have hs2 : e.size = Q.n := by simpa using he.1
  have h := congrArg (fun l => l[i]?) (sorted_same R Q d e hd hds he hes hP)
  simp only [R.ord_at d i (by omega), Q.ord_at e i (by omega), Option.some.injEq] at h
  exact h

theorem sameRows_iff {l l' : Nat → Nat} {x y : Nat → Nat → Val} {n : Nat} : sameRows l l' x y n = true ↔ ∀ i, i < n → l i = l' i ∧ ∀ j, j < l i → x i j = y i j := by
  induction n with
  | zero => simp [sameRows]
  | succ n ih =>
    unfold sameRows
    rw [Bool.and_eq_true, ih, Bool.and_eq_true, beq_iff_eq, sameRow_iff]
    constructor
    · rintro ⟨h1, h2⟩ i hi
      by_cases e : i = n
      · subst e; exact h2
      · exact h1 i (by omega)
    · intro h
      exact ⟨fun i hi => h i (by omega), h n (by omega)⟩

end Go.Proofs.Ytmhcdmebienlpaa
