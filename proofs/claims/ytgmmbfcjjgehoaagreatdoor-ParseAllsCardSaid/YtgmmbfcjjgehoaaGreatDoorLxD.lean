/- What the laws of layer 7 want beside the contract of Lex: bytes read, texts put together. -/
import Derived.Test.YtgmmbfcjjgehoaaGreatDoorLxC
import Derived.Test.YtgmmbfcjjgehoaaGreatDoorStN
namespace Go.Proofs.YtgmmbfcjjgehoaaGreatDoor
open Go.RowKit
set_option maxRecDepth 100000

theorem byt_data {s : ByteArray} {k : Nat} {b : UInt8} (h : s.data.toList[k]? = some b) : k < s.size ∧ byt s k = (b.toNat : Int) := by
  have hl := (List.getElem?_eq_some_iff.1 h).1
  rw [Array.length_toList] at hl
  refine ⟨hl, ?_⟩
  rw [Array.getElem?_toList] at h
  unfold byt
  rw [h]
  rfl
theorem not_blank {b : UInt8} (h : isBlank b = false) : (b.toNat : Int) ≠ 32 ∧ (b.toNat : Int) ≠ 9 ∧ (b.toNat : Int) ≠ 10 ∧ (b.toNat : Int) ≠ 13 := by
  have : b.toNat ≠ 32 ∧ b.toNat ≠ 9 ∧ b.toNat ≠ 10 ∧ b.toNat ≠ 13 := all_bytes (P := fun b => isBlank b = false → b.toNat ≠ 32 ∧ b.toNat ≠ 9 ∧ b.toNat ≠ 10 ∧ b.toNat ≠ 13) (by decide) b h
  omega
theorem yes_blank {b : UInt8} (h : isBlank b = true) : (b.toNat : Int) = 32 ∨ (b.toNat : Int) = 9 ∨ (b.toNat : Int) = 10 ∨ (b.toNat : Int) = 13 := by
  rcases blank_cases h with rfl | rfl | rfl | rfl <;> simp
theorem lexS_err {s : Bs} {er a : Nat} (h : lexS s = .err er a) : (er = 5 ∨ er = 6) ∧ a ≤ s.length := by
  unfold lexS at h
  split at h
  · cases h; exact ⟨.inl rfl, Nat.zero_le _⟩
  · have := lexL_errs s 0 0 er a h
    exact ⟨this.1, by omega⟩
theorem lexS_ok {s : Bs} {L : List Tok} (h : lexS s = .ok L) : s.length ≤ 2000 ∧ lexL s 0 0 = .ok L := by
  unfold lexS at h
  split at h
  · cases h
  · exact ⟨by omega, h⟩
theorem bsB_at (s : ByteArray) (k : Nat) (b : UInt8) (h : s.data.toList[k]? = some b) : s.extract k (k + 1) = bsB [b] := by
  apply ByteArray.ext
  rw [ByteArray.data_extract]
  apply Array.ext'
  rw [Array.toList_extract]
  have hl := (List.getElem?_eq_some_iff.1 h)
  obtain ⟨h1, h2⟩ := hl
  rw [List.extract_eq_take_drop, show k + 1 - k = 1 by omega]
  rw [List.drop_eq_getElem_cons h1, h2]
  rfl

end Go.Proofs.YtgmmbfcjjgehoaaGreatDoor
