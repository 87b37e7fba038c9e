/- Lists of texts, by how often each is there. No program is walked here. -/
import Derived.Test.YtinonaiolhgklaaBgW
namespace Go.Proofs.Ytinonaiolhgklaa
open Go.RowKit Go.Maps
open Go.Proofs (encStr)

theorem length_of_counts {A B : List Txt} (h : ∀ s, A.count s ≤ B.count s) : A.length ≤ B.length := by
  induction A generalizing B with
  | nil => simp
  | cons a t ih =>
    have ha : a ∈ B := List.count_pos_iff.1 (by have := h a; rw [List.count_cons_self] at this; omega)
    have hl : (B.erase a).length = B.length - 1 := List.length_erase_of_mem ha
    have hp : 0 < B.length := List.length_pos_of_mem ha
    have := ih (B := B.erase a) (fun s => by
      have := h s
      by_cases e : s = a
      · subst e; rw [List.count_erase_self]; rw [List.count_cons_self] at this; omega
      · rw [count_erase_other B e]; rw [List.count_cons_of_ne (Ne.symm e)] at this; exact this)
    simp only [List.length_cons]
    omega
theorem sub_of_nodup {l l' : List Txt} (hn : l.Nodup) (hs : ∀ x ∈ l, x ∈ l') (hl : l'.length ≤ l.length) : ∀ x ∈ l', x ∈ l := by
  induction l generalizing l' with
  | nil =>
    have : l' = [] := List.length_eq_zero_iff.1 (by simpa using hl)
    subst this
    intro x hx
    cases hx
  | cons a t ih =>
    obtain ⟨h1, h2⟩ := List.nodup_cons.1 hn
    have ha : a ∈ l' := hs a (by simp)
    have hle : (l'.erase a).length = l'.length - 1 := List.length_erase_of_mem ha
    have hpos : 0 < l'.length := List.length_pos_of_mem ha
    have := ih (l' := l'.erase a) h2 (fun x hx => (List.mem_erase_of_ne (show x ≠ a from fun e => h1 (by rw [← e]; exact hx))).2 (hs x (by simp [hx]))) (by simp at hl; omega)
    intro x hx
    by_cases e : x = a
    · subst e; simp
    · exact List.mem_cons_of_mem _ (this x ((List.mem_erase_of_ne e).2 hx))

/-- The first list is within the second one. -/
def within (A B : List Txt) : Bool := decide (∀ s ∈ A, A.count s ≤ B.count s)
theorem within_iff {A B : List Txt} : within A B = true ↔ ∀ s, A.count s ≤ B.count s := by
  unfold within
  rw [decide_eq_true_eq]
  constructor
  · intro h s
    by_cases e : s ∈ A
    · exact h s e
    · rw [List.count_eq_zero.2 e]; omega
  · exact fun h s _ => h s
def same (A B : List Txt) : Bool := decide (A.Perm B)
theorem same_iff {A B : List Txt} : same A B = true ↔ ∀ s, A.count s = B.count s := by
  unfold same
  rw [decide_eq_true_eq, List.perm_iff_count]
theorem kind_perm {A B : List Txt} (h : A.Perm B) (s : Txt) : A.count s = B.count s := List.perm_iff_count.1 h s

end Go.Proofs.Ytinonaiolhgklaa
