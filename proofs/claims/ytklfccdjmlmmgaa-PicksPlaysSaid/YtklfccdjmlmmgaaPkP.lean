/- What an order is: each number once; without numbers as it was. -/
import Derived.Test.YtklfccdjmlmmgaaPkS
namespace Go.Proofs.Ytklfccdjmlmmgaa
open Go.RowKit

theorem cut_len {l : List Int} {k : Nat} (h : k < l.length) : (l.take k ++ l.drop (k + 1)).length = l.length - 1 := by
  simp only [List.length_append, List.length_take, List.length_drop]
  omega
theorem cut_perm_i {l : List Int} {k : Nat} (h : k < l.length) : (l[k]?.getD 0 :: (l.take k ++ l.drop (k + 1))).Perm l := by
  rw [List.getElem?_eq_getElem h]
  have e : l.take k ++ l[k] :: l.drop (k + 1) = l := by rw [List.getElem_cons_drop, List.take_append_drop]
  have hp := (List.perm_middle (a := l[k]) (l₁ := l.take k) (l₂ := l.drop (k + 1))).symm
  rw [e] at hp
  exact hp
theorem shuf_perm : ∀ (n : Nat) (left L : List Int), left.length = n → (shuf n left L).1.Perm left
  | 0, left, L, h => by rw [List.length_eq_zero_iff.1 h]; exact List.Perm.refl _
  | n + 1, left, L, h => by
    have hk := pickN_lt L ((n : Int) + 1) (by omega)
    have hk' : (pickN L ((n : Int) + 1)).toNat < left.length := by omega
    show (left[(pickN L ((n : Int) + 1)).toNat]?.getD 0 :: _).Perm left
    exact ((shuf_perm n _ L.tail (by rw [cut_len hk']; omega)).cons _).trans (cut_perm_i hk')
theorem shuf_len (n : Nat) (left L : List Int) (h : left.length = n) : (shuf n left L).1.length = n := by rw [(shuf_perm n left L h).length_eq, h]
/-- One number fewer for each choice. -/
theorem shuf_left : ∀ (n : Nat) (left L : List Int), (shuf n left L).2 = L.drop n
  | 0, _, L => rfl
  | n + 1, left, L => by
    show (shuf n _ L.tail).2 = _
    rw [shuf_left n _ L.tail, List.drop_tail]
theorem pickN_nil (n : Int) : pickN [] n = 0 := by unfold pickN; split <;> rfl
theorem shuf_nil : ∀ (n : Nat) (left : List Int), left.length = n → shuf n left [] = (left, [])
  | 0, left, h => by rw [List.length_eq_zero_iff.1 h]; rfl
  | n + 1, left, h => by
    cases left with
    | nil => simp at h
    | cons a l =>
      have e : shuf (n + 1) (a :: l) [] = (a :: (shuf n l []).1, (shuf n l []).2) := by
        simp [shuf, pickN_nil]
      rw [e, shuf_nil n l (by simpa using h)]
theorem iota_mem {n : Nat} {x : Int} : x ∈ iota n ↔ 0 ≤ x ∧ x < n := by
  unfold iota
  rw [List.mem_map]
  constructor
  · rintro ⟨k, hk, rfl⟩
    have := List.mem_range.1 hk
    exact ⟨Int.natCast_nonneg k, by show (k : Int) < n; omega⟩
  · rintro ⟨h1, h2⟩
    exact ⟨x.toNat, List.mem_range.2 (by omega), by show ((x.toNat : Nat) : Int) = x; omega⟩
theorem iota_nodup (n : Nat) : (iota n).Nodup := by
  unfold iota
  exact List.pairwise_map.2 (List.nodup_range.imp fun {a b} h e => h (Int.ofNat.inj e))
theorem iota_get {n k : Nat} (h : k < n) : (iota n)[k]? = some (k : Int) := by simp [iota, h]
theorem pickL_nil (n : Int) : pickL [] n = [] := by unfold pickL; split <;> rfl
theorem ordN_small {n : Int} (h : n ≤ 200) : ordN n = n.toNat := by unfold ordN; rw [if_pos (by omega)]

end Go.Proofs.Ytklfccdjmlmmgaa
