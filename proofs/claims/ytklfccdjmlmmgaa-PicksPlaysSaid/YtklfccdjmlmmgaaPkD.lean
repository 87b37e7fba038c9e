/- The numbers from 0 on, gathered; one of a list taken out in place. -/
import Derived.Test.YtklfccdjmlmmgaaPkS
import Derived.Test.YtklfccdjmlmmgaaLay
namespace Go.Proofs.Ytklfccdjmlmmgaa
open Go.RowKit

set_option maxRecDepth 100000 in
set_option maxHeartbeats 4000000 in
theorem ascending_any (n : Int) (w : World) (hn : -9223372036854775808 ≤ n) (hn2 : n ≤ 1000) :
    Calls Try.prog 18 #[.int .i64 n] w fun e w' => (∃ v, e = .returned v ∧ OwnI w' w.heap.size v (iota n.toNat)) ∧ Below w.heap.size w w' := by
  obtain ⟨N, hN⟩ : ∃ N, N = n.toNat := ⟨_, rfl⟩
  rw [← hN]
  have hN1 : N ≤ 1000 := by omega
  have hN2 : ∀ i : Nat, i ≤ N → ((i : Int) < n ↔ i < N) := by
    intro i _
    omega
  clear hN
  have HN2 := Lib.hid hN2
  clear hN2
  go_enter Try.func18, Try.ntmps18
  go_wp2
  go_loopw [3, 6] (fun vl vi wr => ∃ i : Nat, vi = .int .i64 i ∧ i ≤ N ∧ Hid (OwnI wr w.heap.size vl (iota i) ∧ Below w.heap.size w wr)) (fun _ vi _ => N - (intOf vi).toNat)
  case atStart => exact ⟨0, rfl, Nat.zero_le _, ⟨World.ownsRow_nil _ _ _ _, Below.refl _ _⟩⟩
  case round =>
    obtain ⟨i, rfl, hi, HH⟩ := hrel
    by_cases hlt : i < N
    · have h1 := (HN2.out i hi).2 hlt
      go_wp2_with (at_builtin; refine wp_append_ints rfl _ _ rfl w.heap.size _ (iota i) rfl (HH.out.1.later ?c1) _ 1 1 [(i : Int)] rfl rfl ?c2 ?c3 ?c4 ?_)
      case c1 => exact (Below.refl _ _).alloc (Nat.le_refl _) _
      case c2 =>
        intro j hj
        refine ⟨_, 0, rfl, by simp, fun j u hu => ?_⟩
        match j, hu with
        | 0, hu => simp at hu; subst hu; exact Lib.cell_of_heap (heap_alloc_new wr _) 0
      case c3 => rw [iota_len]; simp; omega
      case c4 => have := HH.out.2.size; simp; omega
      intro v' w' HO hb _
      go_wp2
      go_roundw
      case rel =>
        refine ⟨i + 1, by go_num, hlt, ⟨by rw [iota_succ]; exact HO, HH.out.2.trans (((Below.refl _ _).alloc HH.out.2.size _).trans hb)⟩⟩
      case measure => simp [intOf] <;> omega
    · have hiN : i = N := by omega
      subst hiN
      have hex : ¬ (i : Int) < n := by
        have := (HN2.out i (Nat.le_refl _)).1
        omega
      go_wp2
      go_ret
      exact ⟨⟨_, rfl, HH.out.1⟩, HH.out.2⟩

theorem one_int : OneCell (Value.int .i64) := fun _ => rfl

theorem put_block (w : World) (q g m : Nat) (d : Array Int) (k : Nat) (hk : k ≠ g) : (Sort.putRow (Value.int .i64) (Sort.ahead w q) g m d).heap[k]? = w.heap[k]? := by
  simp [Sort.putRow, Sort.mapBlock, Sort.ahead, Array.getElem?_modify, Ne.symm hk]

theorem put_here (w : World) (q g m : Nat) (d : Array Int) {cur : Array Value} {t : TypeId} {fr : Nat × Nat} (h : w.heap[g]? = some (.cells cur t fr)) : (Sort.putRow (Value.int .i64) (Sort.ahead w q) g m d).heap[g]? = some (.cells (Sort.putCells (Value.int .i64) m d cur) t fr) := by
  simp [Sort.putRow, Sort.mapBlock, Sort.ahead, Array.getElem?_modify, h, Sort.onCells]

theorem delete_any (base g cap k m : Nat) (left : List Int) (w : World) (hm : left.length = m) (hO : OwnI w base (.slice (some ⟨g, 0, none⟩) m cap) left) (hk : k < m) :
    Calls Try.prog 19 #[.slice (some ⟨g, 0, none⟩) m cap, .int .i64 k, .int .i64 ((k : Int) + 1)] w fun e w' => e = .returned (.slice (some ⟨g, 0, none⟩) ((m - 1 : Nat)) cap) ∧ OwnI w' base (.slice (some ⟨g, 0, none⟩) (m - 1) cap) (left.take k ++ left.drop (k + 1)) ∧ Out (fun b => b = g) w w' := by
  obtain ⟨h1, h2⟩ := hO
  rcases h2 with ⟨h2, _⟩ | ⟨g', cap', cur, hv, hb, hg, hn, hmx, hsz, htk⟩
  · cases h2
  obtain ⟨rfl, h3, rfl⟩ : g = g' ∧ m = left.length ∧ cap = cap' := by simpa using hv
  subst h3
  obtain ⟨i0, hi, hz0, hz1, hz2⟩ := info_parts Try.infoInt
  rw [Nat.mul_one] at hsz htk
  have hcell : ∀ j, j < left.length → cur[j]? = some (.int .i64 left[j]!) := by
    intro j hj
    have := congrArg (fun l => l[j]?) htk
    simp only [List.getElem?_take, if_pos hj, List.getElem?_map] at this
    rw [← Array.getElem?_toList, this, List.getElem?_eq_getElem hj, getElem!_pos left j hj]
    rfl
  have hH : Sort.Holds (Value.int .i64) w g 0 left.toArray := by
    intro j hj
    have hj' : j < left.length := by simpa using hj
    rw [Nat.zero_add]
    refine ⟨?_, by rw [Lib.frozen_of_heap hg]; try simp⟩
    rw [Lib.cell_of_heap hg, hcell j hj']
    congr 2
    rw [getElem!_pos left j hj', getElem!_pos left.toArray j hj]
    simp
  refine (AnyE.slices_Delete Try.laysSlE45_f19 (Value.int .i64) one_int 0 Try.zeroValue3 i0 hi hz1 g 0 cap k (k + 1) left.toArray w hH (by simpa using hn) (by unfold maxLen at hmx; omega) (by omega) (by simp; omega)).mono ?_
  rintro e w' ⟨rfl, q, rfl⟩
  have hD : (left.toArray.toList.take k ++ left.toArray.toList.drop (k + 1) ++ List.replicate (k + 1 - k) 0).toArray.size = left.length := by simp; omega
  have hcl : (left.take k ++ left.drop (k + 1)).length = left.length - 1 := by simp; omega
  refine ⟨by simp, ⟨?_, .inr ⟨g, cap, _, by rw [hcl], hb, put_here w q g 0 _ hg, by rw [hcl]; omega, hmx, ?_, ?_⟩⟩, rfl, rfl, rfl, by simp, fun b _ hbg => put_block w q g 0 _ b hbg⟩
  · simp
  · simpa [Sort.putCells] using hsz
  · apply List.ext_getElem?
    intro j
    rw [Nat.mul_one, List.getElem?_take]
    rw [hcl]
    by_cases hj : j < left.length - 1
    · rw [if_pos hj]
      have hjc : j < cur.size := by omega
      rw [Array.getElem?_toList]
      simp only [Sort.putCells, Array.getElem?_mapIdx]
      rw [hD]
      rw [Array.getElem?_eq_getElem hjc, Option.map_some, if_pos ⟨Nat.zero_le _, by omega⟩, List.getElem?_map, List.getElem?_eq_getElem (by rw [hcl]; exact hj), Option.map_some, Nat.sub_zero]
      congr 2
      rw [getElem!_pos _ j (by rw [hD]; omega)]
      simp only [List.getElem_toArray]
      rw [List.getElem_append_left (by simp; omega)]
    · rw [if_neg hj, List.getElem?_eq_none (by rw [List.length_map, hcl]; omega)]

end Go.Proofs.Ytklfccdjmlmmgaa
