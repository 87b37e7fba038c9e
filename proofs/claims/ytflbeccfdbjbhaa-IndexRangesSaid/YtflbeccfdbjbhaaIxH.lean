/- What is held of an index; Hash, All, Distinct. -/
import Derived.Test.YtflbeccfdbjbhaaIxG
import Derived.Test.YtflbeccfdbjbhaaQTail
namespace Go.Proofs.Ytflbeccfdbjbhaa
open Go.RowKit Go.Maps Go.ChangeShapes
set_option maxRecDepth 100000

/-- The map in block m reads as the hash table of l. -/
structure MapV (w : World) (m : Nat) (l : List Val) : Prop where
  own : ∃ (n base : Nat) (D : DataW Unit), n ≤ 1000000 ∧ w.ownsGroups Try.prog 24 base 3 .i64 m n D ∧ GD D l
theorem MapV.below {w w' : World} {m : Nat} {l : List Val} (h : MapV w m l) (hb : Below w.heap.size w w') : MapV w' m l := by
  obtain ⟨n, base, D, hn, h1, h2⟩ := h.own
  have hg : w.grownBy w' none := ⟨hb.os, hb.tape, hb.output, hb.size, fun k hk _ => hb.block k hk⟩
  exact ⟨n, base, D, hn, h1.kept hg (by simp) (fun _ _ _ x _ => by cases x.val.ownBlock <;> simp), h2⟩

/-- An index at p, made when there were N blocks. -/
def IxP (w : World) (N p : Nat) (l : List Val) : Prop := ∃ w1 : World, w1.heap.size = N ∧ Below N w1 w ∧ TwoP w1 p l ∧ (∀ v ∈ l, FitV v) ∧ ∃ m, w1.cell? ⟨p, 2, none⟩ = some (.map (some m)) ∧ MapV w1 m l
theorem IxP.keep {w w' : World} {N p : Nat} {l : List Val} (h : IxP w N p l) (hb : Below N w w') : IxP w' N p l := by
  obtain ⟨w1, h1, h2, h3⟩ := h
  exact ⟨w1, h1, h2.trans hb, h3⟩
theorem IxP.now {w : World} {N p : Nat} {l : List Val} (h : IxP w N p l) : TwoP w p l ∧ N ≤ w.heap.size ∧ (∀ v ∈ l, FitV v) ∧ ∃ m, w.cell? ⟨p, 2, none⟩ = some (.map (some m)) ∧ MapV w m l := by
  obtain ⟨w1, rfl, h2, h3, h4, m, h5, h6⟩ := h
  have hlt := World.block_lt_of_cell? w1 ⟨p, 2, none⟩ (by rw [h5])
  exact ⟨h3.below h2, h2.size, h4, m, (h2.cell (p := ⟨p, 2, none⟩) hlt).trans h5, h6.below h2⟩
theorem IxP.later {w w' : World} {N p : Nat} {l : List Val} (h : IxP w N p l) (hb : Below w.heap.size w w') : IxP w' N p l := h.keep (hb.mono h.now.2.1)

theorem ownsInts_own {w : World} {base : Nat} {v : Value} {zs : List Int} (h : w.ownsInts base 3 .i64 v zs) : OwnN w base v zs := by
  show w.ownsRow base 3 1 v zs.length (zs.flatMap numCell)
  rw [flat_nums]
  exact h.1

theorem lookups_any (w : World) (m : Nat) (l : List Val) (v : Val) (h : MapV w m l) (hv : FitV v) : ∃ q c, (Instr.lookup 43 (.map (some m)) v.v false).run Try.prog w = .ok (.slice q (eqP l v).length c) w ∧ ∃ base, OwnInts w base q c (toInts (eqP l v)) := by
  obtain ⟨n, base, D, hn, hown, hG⟩ := h.own
  obtain ⟨u, zs, hr, hat, ho, _, _⟩ := hown.at Try.lawVal Try.underlying43 (Try.zeroInts _) (by unfold maxLen; omega) hv.key
  obtain rfl : zs = toInts (eqP l v) := datum_own ho ((hG.at_ v hv).symm.trans hat)
  obtain ⟨q, c, rfl, hi⟩ := (ownsInts_own ho).ints
  rw [toInts_len] at hr
  exact ⟨q, c, hr, base, hi⟩

theorem eqP_len (l : List Val) (v : Val) : (eqP l v).length ≤ l.length := by
  unfold eqP
  split
  · simp
  · exact Nat.le_trans (List.length_filter_le _ _) (by simp)

set_option maxHeartbeats 1000000 in
theorem at_any (w : World) (m : Nat) (l : List Val) (v : Val) (h : MapV w m l) (hv : FitV v) (hl : l.length ≤ 1000) :
    Calls Try.prog 21 #[.map (some m), v.v] w fun e w' => (∃ q c, e = .returned (.slice q (eqP l v).length c) ∧ OwnInts w' w.heap.size q c (toInts (eqP l v))) ∧ Below w.heap.size w w' := by
  have hel := eqP_len l v
  have hlen : (toInts (eqP l v)).length = (eqP l v).length := toInts_len _
  obtain ⟨A, hA⟩ : ∃ A, A = toInts (eqP l v) := ⟨_, rfl⟩
  obtain ⟨W0, hW0⟩ : ∃ W0, W0 = w.alloc (.cells #[.int .i64 v.k, .int .i64 v.n, .string v.s] 24) := ⟨_, rfl⟩
  have hB0 : Below w.heap.size w W0 := by rw [hW0]; (repeat (first | exact ext_refl _ | assumption | (refine ext_alloc ?_ _) | (refine ext_drewN ?_ _) | refine ext_drew ?_ | (refine ext_set (by first | (simp; done) | (simp; omega)) _ ?_) | (refine ext_trans ?_ (by assumption))))
  have h0 : MapV W0 m l := h.below hB0
  obtain ⟨q, c, hr, base, hi⟩ := lookups_any W0 m l v h0 hv
  have CL := Lib.hid (clone_any (toInts (eqP l v)) q c base W0.heap.size W0 (by rw [hlen]; omega) hi.arr (Nat.le_refl _))
  rw [hlen, ← hA] at CL
  rw [← hA]
  have b0 : W0.cell? ⟨w.heap.size, 0, none⟩ = some (.int .i64 v.k) := by rw [hW0]; simp [go_sem]
  have b1 : W0.cell? ⟨w.heap.size, 1, none⟩ = some (.int .i64 v.n) := by rw [hW0]; simp [go_sem]
  have b2 : W0.cell? ⟨w.heap.size, 2, none⟩ = some (.string v.s) := by rw [hW0]; simp [go_sem]
  have HW := Lib.hid hW0
  have HB := Lib.hid hB0
  generalize (eqP l v).length = len at *
  clear hW0 hB0 h h0 hi hA hel hlen hv
  obtain ⟨vk, vn, vs⟩ := v
  have hr' : (Instr.lookup 43 (.map (some m)) (.agg #[.int .i64 vk, .int .i64 vn, .string vs]) false).run Try.prog W0 = .ok (.slice q len c) W0 := hr
  clear hr
  go_enter Try.func21, Try.ntmps21
  go_upto_region 1 with fail
  rw [← HW.out]
  clear HW
  go_wp2_with fail
  refine (CL.out).mono ?_
  rintro e w1 ⟨⟨q1, c1, rfl, o1⟩, hb⟩
  have R := Lib.hid (show OwnInts w1 w.heap.size q1 c1 A from ⟨o1.le, o1.le2, ArrA.wide o1.arr HB.out.size (Nat.le_refl _), o1.free⟩)
  have BE := Lib.hid (HB.out.trans (hb.mono HB.out.size))
  clear o1 hb CL
  go_wp2
  go_ret
  exact ⟨⟨_, _, rfl, R.out⟩, BE.out⟩

set_option maxHeartbeats 1000000 in
theorem hash_any (w : World) (N p : Nat) (l : List Val) (v : Val) (h : IxP w N p l) (hv : FitV v) :
    Calls Try.prog 9 #[.pointer (some ⟨p, 0, none⟩), v.v] w fun e w' => (∃ q c, e = .returned (.slice q (eqP l v).length c) ∧ OwnInts w' w.heap.size q c (toInts (eqP l v))) ∧ Below w.heap.size w w' := by
  obtain ⟨h1, h2, h3, m, h4, h5⟩ := h.now
  have hl := h1.few
  obtain ⟨W0, hW0⟩ : ∃ W0, W0 = w.alloc (.cells #[.int .i64 v.k, .int .i64 v.n, .string v.s] 24) := ⟨_, rfl⟩
  have hB0 : Below w.heap.size w W0 := by rw [hW0]; (repeat (first | exact ext_refl _ | assumption | (refine ext_alloc ?_ _) | (refine ext_drewN ?_ _) | refine ext_drew ?_ | (refine ext_set (by first | (simp; done) | (simp; omega)) _ ?_) | (refine ext_trans ?_ (by assumption))))
  have hz : w.heap.size < W0.heap.size := by rw [hW0]; simp
  have lp := World.block_lt_of_cell? w ⟨p, 2, none⟩ (by rw [h4])
  have b0 : W0.cell? ⟨w.heap.size, 0, none⟩ = some (.int .i64 v.k) := by rw [hW0]; simp [go_sem]
  have b1 : W0.cell? ⟨w.heap.size, 1, none⟩ = some (.int .i64 v.n) := by rw [hW0]; simp [go_sem]
  have b2 : W0.cell? ⟨w.heap.size, 2, none⟩ = some (.string v.s) := by rw [hW0]; simp [go_sem]
  have b3 := (hB0.cell (p := ⟨p, 2, none⟩) lp).trans h4
  have q0 := fun (z : After W0) => (z.cell w.heap.size 0 hz).trans b0
  have q1 := fun (z : After W0) => (z.cell w.heap.size 1 hz).trans b1
  have q2 := fun (z : After W0) => (z.cell w.heap.size 2 hz).trans b2
  have q3 := fun (z : After W0) => (z.cell p 2 (Nat.lt_trans lp hz)).trans b3
  have is := After.some W0
  have AT := Lib.hid (fun W' (hb : Below W0.heap.size W0 W') => at_any W' m l v (h5.below (hB0.trans (hb.mono hB0.size))) hv hl)
  have HW := Lib.hid hW0
  have HB := Lib.hid hB0
  clear hW0 hB0 b0 b1 b2 b3 h h1 h3 h4 h5 hv hl
  obtain ⟨vk, vn, vs⟩ := v
  generalize eqP l ⟨vk, vn, vs⟩ = A at *
  go_enter Try.func9, Try.ntmps9
  go_upto_region 1 with fail
  rw [← HW.out]
  clear HW
  go_wp2_with fail
  refine wp_region_after_tail 5 (by kernel_rfl) (by kernel_rfl) ?_
  simp only [List.take_succ_cons, List.take_zero, List.drop_succ_cons, List.drop_zero]
  repeat (quiet_step (fail))
  refine wpQuiet_nil ?_
  intro W1 hw
  have hb1 : Below W0.heap.size W0 W1 := by obtain ⟨x, rfl⟩ := hw; exact x.below
  clear q0 q1 q2 q3 is hw
  go_wp2_with fail
  refine (AT.out W1 hb1).mono ?_
  rintro e w2 ⟨⟨q1, c1, rfl, o1⟩, hb⟩
  have hs1 : w.heap.size ≤ W1.heap.size := Nat.le_trans HB.out.size hb1.size
  have R := Lib.hid (show OwnInts w2 w.heap.size q1 c1 (toInts A) from ⟨o1.le, o1.le2, ArrA.wide o1.arr hs1 (Nat.le_refl _), o1.free⟩)
  have BE := Lib.hid (HB.out.trans ((hb1.mono HB.out.size).trans (hb.mono hs1)))
  clear o1 hb hb1 AT
  go_wp2
  go_ret
  exact ⟨⟨_, _, rfl, R.out⟩, BE.out⟩

set_option maxHeartbeats 1000000 in
theorem all_any (w : World) (N p : Nat) (l : List Val) (h : IxP w N p l) :
    Calls Try.prog 10 #[.pointer (some ⟨p, 0, none⟩)] w fun e w' => (∃ q c, e = .returned (.slice q (allP l).length c) ∧ OwnInts w' w.heap.size q c (toInts (allP l))) ∧ Below w.heap.size w w' := by
  obtain ⟨h1, -⟩ := h.now
  obtain ⟨q2, c2, lo2, hi2, b1, b2, b3, b4, b5⟩ := h1.order
  have hfew := h1.few
  have hlen : (toInts (allP l)).length = l.length := by rw [toInts_len, allP_len]
  have CL := Lib.hid (clone_any (toInts (allP l)) q2 c2 lo2 hi2 w (by rw [hlen]; omega) b4 b5)
  rw [hlen] at CL
  rw [allP_len]
  clear h h1 b4 hlen
  go_enter Try.func10, Try.ntmps10
  go_wp2_with fail
  refine (CL.out).mono ?_
  rintro e w1 ⟨⟨q1, c1, rfl, o1⟩, hb⟩
  have R := Lib.hid (And.intro o1 hb)
  clear o1 hb CL
  go_wp2
  go_ret
  exact ⟨⟨_, _, rfl, R.out.1⟩, R.out.2⟩

set_option maxHeartbeats 1000000 in
theorem distinct_any (w : World) (N p : Nat) (l : List Val) (h : IxP w N p l) :
    Calls Try.prog 13 #[.pointer (some ⟨p, 0, none⟩)] w fun e w' => e = .returned (.int .i64 (distP l : Int)) ∧ Below w.heap.size w w' := by
  obtain ⟨-, -, -, m, h4, h5⟩ := h.now
  obtain ⟨n, base, D, hn, ⟨es, clock, e1, e2, e3, e4, -⟩, hG⟩ := h5.own
  have hown : w.ownsMap Try.prog 24 (rowElem w base 3 .i64) m n D := ⟨es, clock, e1, e2, e3, e4⟩
  rw [← hG.size]
  have HO := Lib.hid hown
  clear h h5 hG e1 e2 e3 e4 hown
  go_enter Try.func13, Try.ntmps13
  go_wp2_with (at_len; refine wpList_len_own _ rfl _ 43 rfl 24 31 Try.underlying43 _ m n D rfl HO.out ?_)
  go_ret
  exact ⟨rfl, Below.refl _ _⟩

end Go.Proofs.Ytflbeccfdbjbhaa
