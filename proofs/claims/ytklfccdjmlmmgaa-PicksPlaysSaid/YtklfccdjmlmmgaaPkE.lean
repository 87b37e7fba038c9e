/- The chapter's examples are so. -/
import Derived.Test.YtklfccdjmlmmgaaPkH
import Derived.Test.YtklfccdjmlmmgaaPkP
namespace Go.Proofs.Ytklfccdjmlmmgaa
open Go.RowKit

theorem numbers_at (q q' : Option Addr) (c c' n n' : Nat) (A B : List Int) (w : World) (ha : n = A.length) (hb : n' = B.length) (hn : n ≤ 9223372036854775807) (hn' : n' ≤ 9223372036854775807) (h : SrcI w w.heap.size q A) (h' : SrcI w w.heap.size q' B) :
    Calls Try.prog 13 #[.slice q n c, .slice q' n' c'] w fun e w' => e = .returned (.bool (decide (A = B))) ∧ Below w.heap.size w w' := by
  subst ha hb
  exact numbers_any q q' c c' A B w hn hn' h h'

/-- A picks is made: where it lies is left open. -/
theorem new_some (q : Option Addr) (c n : Nat) (L : List Int) (w : World) (hq : ∀ i : Int, i = min (n : Int) 1000 → i = L.length) (hnc : n ≤ c) (hc2 : c ≤ 9223372036854775807) (hS : SrcI w w.heap.size q L) (hF : Fit L) (hl : L.length ≤ 1000) :
    Calls Try.prog 9 #[.slice q n c] w fun e w' => ∃ p ch, e = .returned (.pointer (some ⟨p, 0, none⟩)) ∧ PkP w' w'.heap.size p ch L ∧ w.heap.size ≤ p ∧ w.heap.size ≤ ch ∧ Below w.heap.size w w' := by
  refine (new_at q c n L w hq hnc hc2 hS hF hl).mono ?_
  rintro e w' ⟨rfl, h, hb⟩
  exact ⟨_, _, rfl, h.up h.top (Nat.le_refl _), by omega, Nat.le_refl _, hb⟩

theorem srcI_built (w : World) (t : TypeId) (l : List Int) : SrcI (w.alloc (.cells (l.map (Value.int .i64)).toArray t)) (w.heap.size + 1) (some ⟨w.heap.size, 0, none⟩) l := fun i hi => by
  refine ⟨w.heap.size, 0, rfl, Nat.lt_succ_self _, fun j u hu => ?_⟩
  rw [Lib.cell_of_heap (heap_alloc_new w _), Nat.zero_add]
  simp [hu]

set_option maxRecDepth 100000 in
set_option maxHeartbeats 2000000 in
theorem ex4_any (w : World) : Calls Try.prog 8 #[] w fun e w' => e = .returned (.bool true) ∧ Below w.heap.size w w' := by
  have e1 : ∀ (W : World) (o : Obj), (W.alloc o).heap.size = W.heap.size + 1 := fun W o => by simp
  have f1 : Fit [5, -1, 7] := by intro x hx; simp at hx; omega
  have f2 : Fit [2, 0] := by intro x hx; simp at hx; omega
  go_enter Try.func8, Try.ntmps8
  go_wp2_with fail
  refine (new_some _ 3 3 [5, -1, 7] _ (fun i h => by simp; omega) (by omega) (by omega) ((srcI_built w _ [5, -1, 7]).up (by simp)) f1 (by simp)).mono ?_
  rintro e w1 ⟨p, c, rfl, hP, hp, hc, hb⟩
  rw [e1] at hp hc
  have hb1 : Below w.heap.size w w1 := ((Below.refl _ _).alloc (Nat.le_refl _) _).trans (hb.mono (by simp))
  have E1 := Lib.hid hb1
  have P1 := Lib.hid hP
  clear hb hb1 hP
  go_wp2_with fail
  refine (new_some _ 2 2 [2, 0] _ (fun i h => by simp; omega) (by omega) (by omega) ((srcI_built w1 _ [2, 0]).up (by simp)) f2 (by simp)).mono ?_
  rintro e w2 ⟨pq, cq, rfl, hQ, hpq, hcq, hb⟩
  rw [e1] at hpq hcq
  have hs1 := E1.out.size
  have hb2 : Below w1.heap.size w1 w2 := ((Below.refl _ _).alloc (Nat.le_refl _) _).trans (hb.mono (by simp))
  have hcl := P1.out.lowc
  have hpl := P1.out.lowp
  have st : PkP w2 w1.heap.size p c [5, -1, 7] ∧ PkP w2 w2.heap.size pq cq [2, 0] ∧ Below w.heap.size w w2 := ⟨P1.out.ext hb2, hQ, E1.out.trans (hb2.mono hs1)⟩
  have S2 := Lib.hid st
  have hs2 := hb2.size
  clear hb hb2 hQ st P1 E1
  go_wp2_with fail
  refine (next_any w1.heap.size p c [5, -1, 7] 3 w2 S2.out.1 (by omega)).mono ?_
  rintro e w3 ⟨rfl, h1, o1⟩
  rw [show pickN [5, -1, 7] 3 = 2 from by decide]
  have S3 := Lib.hid (show PkP w3 w1.heap.size p c [-1, 7] ∧ PkP w3 w2.heap.size pq cq [2, 0] ∧ Below w.heap.size w w3 from ⟨h1, S2.out.2.1.keep o1 (by omega) (by omega), S2.out.2.2.trans (o1.below (by omega) (fun k e => by omega))⟩)
  have hs3 := o1.size
  clear S2 h1 o1
  go_wp2_with fail
  refine (next_any w1.heap.size p c [-1, 7] 3 w3 S3.out.1 (by omega)).mono ?_
  rintro e w4 ⟨rfl, h1, o1⟩
  rw [show pickN [-1, 7] 3 = 0 from by decide]
  have S4 := Lib.hid (show PkP w4 w1.heap.size p c [7] ∧ PkP w4 w2.heap.size pq cq [2, 0] ∧ Below w.heap.size w w4 from ⟨h1, S3.out.2.1.keep o1 (by omega) (by omega), S3.out.2.2.trans (o1.below (by omega) (fun k e => by omega))⟩)
  have hs4 := o1.size
  clear S3 h1 o1
  go_wp2_with fail
  refine (next_any w1.heap.size p c [7] 0 w4 S4.out.1 (by omega)).mono ?_
  rintro e w5 ⟨rfl, h1, o1⟩
  rw [show pickN [7] 0 = 0 from by decide]
  have S5 := Lib.hid (show PkP w5 w1.heap.size p c [7] ∧ PkP w5 w2.heap.size pq cq [2, 0] ∧ Below w.heap.size w w5 from ⟨h1, S4.out.2.1.keep o1 (by omega) (by omega), S4.out.2.2.trans (o1.below (by omega) (fun k e => by omega))⟩)
  have hs5 := o1.size
  clear S4 h1 o1
  go_wp2_with fail
  refine (next_any w1.heap.size p c [7] 4 w5 S5.out.1 (by omega)).mono ?_
  rintro e w6 ⟨rfl, h1, o1⟩
  rw [show pickN [7] 4 = 3 from by decide]
  have S6 := Lib.hid (show PkP w6 w1.heap.size p c [] ∧ PkP w6 w2.heap.size pq cq [2, 0] ∧ Below w.heap.size w w6 from ⟨h1, S5.out.2.1.keep o1 (by omega) (by omega), S5.out.2.2.trans (o1.below (by omega) (fun k e => by omega))⟩)
  have hs6 := o1.size
  clear S5 h1 o1
  go_wp2_with fail
  refine (next_any w1.heap.size p c [] 9 w6 S6.out.1 (by omega)).mono ?_
  rintro e w7 ⟨rfl, h1, o1⟩
  rw [show pickN [] 9 = 0 from by decide]
  have S7 := Lib.hid (show PkP w7 w1.heap.size p c [] ∧ PkP w7 w2.heap.size pq cq [2, 0] ∧ Below w.heap.size w w7 from ⟨h1, S6.out.2.1.keep o1 (by omega) (by omega), S6.out.2.2.trans (o1.below (by omega) (fun k e => by omega))⟩)
  have hs7 := o1.size
  clear S6 h1 o1
  go_wp2_with fail
  refine (shuffle_any w2.heap.size pq cq [2, 0] 4 w7 S7.out.2.1 (by omega) (by omega)).mono ?_
  rintro e w8 ⟨⟨v, rfl, hv⟩, h1, o1⟩
  rw [show (shuf (ordN 4) (iota (ordN 4)) [2, 0]).1 = [2, 0, 1, 3] from by decide] at hv
  obtain ⟨q8, c8, rfl, hc8, _, hs8'⟩ := hv.srcI
  have hs8 := o1.size
  have S8 := Lib.hid (show PkP w8 w1.heap.size p c [] ∧ SrcI w8 w8.heap.size q8 [2, 0, 1, 3] ∧ Below w.heap.size w w8 from ⟨S7.out.1.keep o1 (by omega) (by omega), hs8', S7.out.2.2.trans (o1.below (by omega) (fun k e => by omega))⟩)
  clear S7 h1 o1 hv hs8'
  rw [show ([2, 0, 1, 3] : List Int).length = 4 from rfl] at *
  go_wp2_with fail
  refine (numbers_at q8 _ c8 4 4 4 [2, 0, 1, 3] [2, 0, 1, 3] _ rfl rfl (by omega) (by omega) ((S8.out.2.1.ext ((Below.refl _ _).alloc (Nat.le_refl _) _)).up (by simp)) ((srcI_built w8 _ [2, 0, 1, 3]).up (by simp))).mono ?_
  rintro e w9 ⟨rfl, b9⟩
  rw [e1] at b9
  have b89 : Below w8.heap.size w8 w9 := ((Below.refl _ _).alloc (Nat.le_refl _) _).trans (b9.mono (by simp))
  have S9 := Lib.hid (show PkP w9 w1.heap.size p c [] ∧ Below w.heap.size w w9 from ⟨S8.out.1.ext (b89.mono (by omega)), S8.out.2.2.trans (b89.mono (by omega))⟩)
  clear S8 b9 b89
  rw [show decide (([2, 0, 1, 3] : List Int) = [2, 0, 1, 3]) = true from by decide]
  go_wp2_with fail
  refine (left_any w1.heap.size p c [] w9 S9.out.1).mono ?_
  rintro e w10 ⟨rfl, rfl⟩
  go_wp2
  go_ret
  exact ⟨rfl, S9.out.2⟩

end Go.Proofs.Ytklfccdjmlmmgaa
