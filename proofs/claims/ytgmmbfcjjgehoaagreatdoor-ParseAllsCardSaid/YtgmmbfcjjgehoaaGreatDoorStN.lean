/- Names: what is one; the reference's words and its Name. -/
import Derived.Test.YtgmmbfcjjgehoaaGreatDoorStD
import Derived.BigQuiet
namespace Go.Proofs.YtgmmbfcjjgehoaaGreatDoor
open Go.RowKit

/-- The words of a query. -/
def wordsL : List ByteArray := [⟨#[115, 101, 108, 101, 99, 116]⟩, ⟨#[100, 105, 115, 116, 105, 110, 99, 116]⟩, ⟨#[102, 114, 111, 109]⟩, ⟨#[106, 111, 105, 110]⟩, ⟨#[108, 101, 102, 116]⟩, ⟨#[115, 101, 109, 105]⟩, ⟨#[111, 110]⟩, ⟨#[119, 104, 101, 114, 101]⟩, ⟨#[103, 114, 111, 117, 112]⟩, ⟨#[98, 121]⟩, ⟨#[117, 110, 105, 111, 110]⟩, ⟨#[97, 108, 108]⟩, ⟨#[111, 114, 100, 101, 114]⟩, ⟨#[100, 101, 115, 99]⟩, ⟨#[97, 110, 100]⟩, ⟨#[111, 114]⟩, ⟨#[110, 111, 116]⟩, ⟨#[105, 115]⟩, ⟨#[110, 117, 108, 108]⟩, ⟨#[116, 114, 117, 101]⟩, ⟨#[102, 97, 108, 115, 101]⟩, ⟨#[99, 111, 117, 110, 116]⟩, ⟨#[115, 117, 109]⟩, ⟨#[109, 105, 110]⟩, ⟨#[109, 97, 120]⟩]
/-- A byte of a name. -/
def okB (b : Int) : Prop := (97 ≤ b ∧ b ≤ 122) ∨ (48 ≤ b ∧ b ≤ 57) ∨ b = 95
/-- The byte at place i, as a number. -/
def byt (s : ByteArray) (i : Nat) : Int := ((s.data[i]?.getD 0).toNat : Int)
theorem byt_lt (s : ByteArray) (i : Nat) : 0 ≤ byt s i ∧ byt s i < 256 := by
  unfold byt
  have := (s.data[i]?.getD 0).toNat_lt
  omega
/-- What is a name. -/
def NameP (s : ByteArray) : Prop := (1 ≤ s.size ∧ s.size ≤ 20) ∧ (97 ≤ byt s 0 ∧ byt s 0 ≤ 122) ∧ (∀ i, i < s.size → okB (byt s i)) ∧ ∀ x ∈ wordsL, x.toList ≠ s.toList

set_option maxRecDepth 100000 in
set_option maxHeartbeats 1000000 in
theorem rwords_any (w : World) : Calls Tryz.prog 63 #[] w fun e w' => ∃ g, e = .returned (.slice (some ⟨g, 0, none⟩) 25 25) ∧ StrsA w' w.heap.size w'.heap.size (some ⟨g, 0, none⟩) wordsL ∧ Below w.heap.size w w' := by
  go_enter Tryz.func63, Tryz.ntmps63
  go_wp2
  go_ret
  refine ⟨_, rfl, fun i _ => ⟨w.heap.size, 0, rfl, Nat.le_refl _, by simp, fun j x hx => ?_⟩, (Below.refl _ _).alloc (Nat.le_refl _) _⟩
  unfold strC
  rw [Lib.cell_of_heap (heap_alloc_new w _)]
  have hj : j < 25 := (List.getElem?_eq_some_iff.1 hx).1
  rw [Nat.zero_add, Nat.mul_one]
  have key : (wordsL.map Value.string).toArray[j]? = some (.string x) := by rw [List.getElem?_toArray, List.getElem?_map, hx]; rfl
  exact key

theorem byt_at (s : ByteArray) (i : Nat) (h : i < s.size) : ((s[i]'h).toNat : Int) = byt s i := by
  have h' : i < s.data.size := h
  unfold byt
  rw [Array.getElem?_eq_getElem h']
  rfl

end Go.Proofs.YtgmmbfcjjgehoaaGreatDoor
