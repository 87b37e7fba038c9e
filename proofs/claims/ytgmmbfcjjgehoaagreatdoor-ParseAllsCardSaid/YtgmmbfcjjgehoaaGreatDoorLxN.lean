/- Bytes and numbers told by numbers; how far a class of bytes goes. No program is walked here. -/
import Derived.Test.YtgmmbfcjjgehoaaGreatDoorLxU
namespace Go.Proofs.YtgmmbfcjjgehoaaGreatDoor
set_option maxRecDepth 100000

theorem letter_num (b : UInt8) : isLetter b = decide ((97 ≤ b.toNat ∧ b.toNat ≤ 122) ∨ (65 ≤ b.toNat ∧ b.toNat ≤ 90)) := all_bytes (P := fun b => isLetter b = decide ((97 ≤ b.toNat ∧ b.toNat ≤ 122) ∨ (65 ≤ b.toNat ∧ b.toNat ≤ 90))) (by decide) b
theorem digit_num (b : UInt8) : isDigit b = decide (48 ≤ b.toNat ∧ b.toNat ≤ 57) := all_bytes (P := fun b => isDigit b = decide (48 ≤ b.toNat ∧ b.toNat ≤ 57)) (by decide) b
theorem numOf_snoc (l : Bs) (b : UInt8) : numOf (l ++ [b]) = 10 * numOf l + (b.toNat - 48) := by unfold numOf; rw [List.foldl_append]; rfl
theorem numOf_grows : ∀ (m l : Bs), numOf l ≤ numOf (l ++ m)
  | [], l => by rw [List.append_nil]; exact Nat.le_refl _
  | b :: m, l => by
    rw [show l ++ b :: m = (l ++ [b]) ++ m by simp]
    have h := numOf_grows m (l ++ [b])
    rw [numOf_snoc] at h
    omega
theorem takeWhile_at {p : UInt8 → Bool} {l : Bs} {i : Nat} {b : UInt8} (hi : i ≤ (l.takeWhile p).length) (hb : l[i]? = some b) : i < (l.takeWhile p).length ↔ p b = true := by
  induction l generalizing i with
  | nil => cases hb
  | cons a l ih =>
    rw [List.takeWhile_cons] at hi ⊢
    cases ha : p a with
    | false =>
      rw [ha] at hi
      simp at hi
      subst hi
      simp at hb
      subst hb
      simp [ha]
    | true =>
      rw [ha] at hi
      simp only [if_true, List.length_cons] at hi ⊢
      cases i with
      | zero => simp at hb; subst hb; simp [ha]
      | succ i => rw [← ih (i := i) (by omega) (by simpa using hb)]; omega
theorem takeWhile_get {p : UInt8 → Bool} {l : Bs} {i : Nat} {b : UInt8} (hi : i < (l.takeWhile p).length) (hb : l[i]? = some b) : (l.takeWhile p)[i]? = some b := by
  have h := (List.takeWhile_prefix p (l := l))
  obtain ⟨t, ht⟩ := h
  rw [← hb, ← List.getElem?_append_left (l₂ := t) hi, ht]
theorem lower_num (b : UInt8) : (65 ≤ b.toNat ∧ b.toNat ≤ 90 → (lower b).toNat = b.toNat + 32) ∧ (¬ (65 ≤ b.toNat ∧ b.toNat ≤ 90) → lower b = b) :=
  all_bytes (P := fun b => (65 ≤ b.toNat ∧ b.toNat ≤ 90 → (lower b).toNat = b.toNat + 32) ∧ (¬ (65 ≤ b.toNat ∧ b.toNat ≤ 90) → lower b = b)) (by decide) b

end Go.Proofs.YtgmmbfcjjgehoaaGreatDoor
