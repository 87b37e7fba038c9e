/- Sums of few steps of at most a hundred: nothing is held back; the parts below, at and above a value. -/
import Derived.Test.YtkgdbpfpjpiejaaHiP
namespace Go.Proofs.Ytkgdbpfpjpiejaa
open Go.RowKit
set_option linter.unusedVariables false
set_option linter.unusedSimpArgs false

/-- A plain sum of what is let through. -/
def pl (f : Stp → Bool) : List Stp → Int
  | [] => 0
  | s :: l => (if f s then s.m else 0) + pl f l
def atV (v : Val) (s : Stp) : Bool := s.x.cmp v == 0
def overV (v : Val) (s : Stp) : Bool := s.x.cmp v == 1
/-- How many, as the law turns it: from 0 to 100. -/
def adj (m : Int) : Int := (if m < 0 then -(m + 1) else m) % 101
def mkS (s : Stp) : Stp := ⟨s.x, adj s.m⟩

theorem adj_le (m : Int) : 0 ≤ adj m ∧ adj m ≤ 100 := by unfold adj; split <;> omega
theorem ordI_tri (a b : Int) : ordI a b = -1 ∨ ordI a b = 0 ∨ ordI a b = 1 := by unfold ordI; split <;> (try split) <;> simp
theorem ordS_tri (a b : ByteArray) : ordS a b = -1 ∨ ordS a b = 0 ∨ ordS a b = 1 := by unfold ordS; split <;> (try split) <;> simp
theorem or3_tri {x y z : Int} (hx : x = -1 ∨ x = 0 ∨ x = 1) (hy : y = -1 ∨ y = 0 ∨ y = 1) (hz : z = -1 ∨ z = 0 ∨ z = 1) : or3 x y z = -1 ∨ or3 x y z = 0 ∨ or3 x y z = 1 := by
  unfold or3; split <;> (try split) <;> assumption
theorem cmp_tri (x y : Val) : x.cmp y = -1 ∨ x.cmp y = 0 ∨ x.cmp y = 1 := or3_tri (ordI_tri _ _) (ordI_tri _ _) (ordS_tri _ _)

theorem pl_le (f : Stp → Bool) : ∀ (L : List Stp), (∀ s ∈ L, 0 ≤ s.m ∧ s.m ≤ 100) → 0 ≤ pl f L ∧ pl f L ≤ 100 * L.length
  | [], _ => ⟨Int.le_refl _, Int.le_refl _⟩
  | s :: l, h => by
    have h1 := h s List.mem_cons_self
    have h2 := pl_le f l fun x hx => h x (List.mem_cons_of_mem _ hx)
    simp only [pl, List.length_cons]
    split <;> omega
theorem sumC_pl (f : Stp → Bool) : ∀ (L : List Stp) (n : Int), 0 ≤ n → (∀ s ∈ L, 0 ≤ s.m ∧ s.m ≤ 100) → n + 100 * L.length ≤ 1000000000000 → sumC f n L = n + pl f L
  | [], n, _, _, _ => (Int.add_zero n).symm
  | s :: l, n, h0, h, hn => by
    have h1 := h s List.mem_cons_self
    have hl : ∀ x ∈ l, 0 ≤ x.m ∧ x.m ≤ 100 := fun x hx => h x (List.mem_cons_of_mem _ hx)
    simp only [List.length_cons] at hn
    show sumC f (if f s then addC n s.m else n) l = n + ((if f s then s.m else 0) + pl f l)
    cases f s with
    | false =>
      have := sumC_pl f l n h0 hl (by omega)
      simp only [Bool.false_eq_true, if_false]
      omega
    | true =>
      have e : addC n s.m = n + s.m := by unfold addC; rw [clip_of h0 (by omega), clip_of h1.1 (by omega), clip_of (by omega) (by omega)]
      have := sumC_pl f l (n + s.m) (by omega) hl (by omega)
      simp only [if_true, e]
      omega
theorem pl_snoc (f : Stp → Bool) : ∀ (L : List Stp) (s : Stp), pl f (L ++ [s]) = pl f L + if f s then s.m else 0
  | [], s => by simp [pl]
  | x :: l, s => by
    simp only [List.cons_append, pl, pl_snoc f l s]
    omega
theorem pl_parts (v : Val) : ∀ (L : List Stp), pl (lies v false) L + pl (atV v) L + pl (overV v) L = pl (fun _ => true) L ∧ pl (lies v true) L = pl (lies v false) L + pl (atV v) L
  | [] => ⟨rfl, rfl⟩
  | s :: l => by
    have h := pl_parts v l
    rcases cmp_tri s.x v with e | e | e
    · have a1 : lies v false s = true := by simp [lies, e]
      have a2 : lies v true s = true := by simp [lies, e]
      have a3 : atV v s = false := by simp [atV, e]
      have a4 : overV v s = false := by simp [overV, e]
      simp only [pl, a1, a2, a3, a4, if_true, Bool.false_eq_true, if_false]
      omega
    · have a1 : lies v false s = false := by simp [lies, e]
      have a2 : lies v true s = true := by simp [lies, e]
      have a3 : atV v s = true := by simp [atV, e]
      have a4 : overV v s = false := by simp [overV, e]
      simp only [pl, a1, a2, a3, a4, if_true, Bool.false_eq_true, if_false]
      omega
    · have a1 : lies v false s = false := by simp [lies, e]
      have a2 : lies v true s = false := by simp [lies, e]
      have a3 : atV v s = false := by simp [atV, e]
      have a4 : overV v s = true := by simp [overV, e]
      simp only [pl, a1, a2, a3, a4, if_true, Bool.false_eq_true, if_false]
      omega
theorem mk_le (l : List Stp) : ∀ s ∈ l.map mkS, 0 ≤ s.m ∧ s.m ≤ 100 := fun s hs => by
  obtain ⟨x, _, rfl⟩ := List.mem_map.1 hs
  exact adj_le _
/-- What the law asks. -/
theorem sums_ok (v : Val) (l : List Stp) (h : l.length ≤ 20) : belowL v false (l.map mkS) + pl (atV v) (l.map mkS) + pl (overV v) (l.map mkS) = manyL (l.map mkS) ∧ belowL v true (l.map mkS) = belowL v false (l.map mkS) + pl (atV v) (l.map mkS) := by
  have hl : (l.map mkS).length ≤ 20 := by rw [List.length_map]; exact h
  have hp := pl_parts v (l.map mkS)
  have e : ∀ f, sumC f 0 (l.map mkS) = pl f (l.map mkS) := fun f => by rw [sumC_pl f _ 0 (Int.le_refl _) (mk_le l) (by omega), Int.zero_add]
  unfold belowL manyL
  rw [e, e, e]
  exact ⟨hp.1, hp.2⟩

end Go.Proofs.Ytkgdbpfpjpiejaa
