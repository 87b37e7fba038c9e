/- Eq: the places of a value, found by the order. -/
import Derived.Test.YtflbeccfdbjbhaaIxH
import Derived.Test.YtflbeccfdbjbhaaIxT
namespace Go.Proofs.Ytflbeccfdbjbhaa
open Go.RowKit
set_option maxRecDepth 100000

/-- A piece of a list of numbers. -/
theorem ints_mid {w : World} {lo hi : Nat} {q : Option Addr} {L : List Nat} (h : IntsA w lo hi q (toInts L)) {a b c : Nat} (hb : b ≤ L.length) (hc : b ≤ c) : IntsA w lo hi (if c = a then q else Option.map (fun x => x.add a) q) (toInts ((L.take b).drop a)) := fun i hi' => by
  rw [toInts_len, List.length_drop, List.length_take] at hi'
  obtain ⟨g, off, rfl, h1, h2, hcell⟩ := h 0 (by rw [toInts_len]; omega)
  rw [if_neg (by omega)]
  refine ⟨g, off + a, ?_, h1, h2, fun j x hx => ?_⟩
  · have hadd : (⟨g, off, none⟩ : Addr).add a = ⟨g, off + a, none⟩ := by unfold Addr.add; split <;> simp_all
    simp [hadd]
  · obtain ⟨n, hn, rfl⟩ := toInts_get hx
    rw [List.getElem?_drop] at hn
    have hlt := (List.getElem?_eq_some_iff.1 hn).1
    rw [List.length_take] at hlt
    rw [List.getElem?_take, if_pos (by omega)] at hn
    have := hcell (a + j) (n : Int) (by unfold toInts; rw [List.getElem?_map, hn]; rfl)
    rw [show off + a + j * 1 = off + (a + j) * 1 by omega]
    exact this

set_option maxHeartbeats 2000000 in
theorem eq_any (w : World) (N p : Nat) (l : List Val) (v : Val) (h : IxP w N p l) :
    Calls Try.prog 8 #[.pointer (some ⟨p, 0, none⟩), v.v] w fun e w' => (∃ q c, e = .returned (.slice q (eqP l v).length c) ∧ OwnInts w' w.heap.size q c (toInts (eqP l v))) ∧ Below w.heap.size w w' := by
  obtain ⟨h1, h2, -⟩ := h.now
  have hfew := h1.few
  by_cases hk : v.k = 0
  · have he : eqP l v = [] := by unfold eqP; rw [if_pos hk]
    rw [he]
    obtain ⟨vk, vn, vs⟩ := v
    have NU := Lib.hid (fun W => isNull_any ⟨vk, vn, vs⟩ W)
    rw [decide_eq_true hk] at NU
    clear hk he h h1 h2
    go_enter Try.func8, Try.ntmps8
    go_wp2_with fail
    refine (NU.out _).mono ?_
    rintro e w1 ⟨rfl, hb⟩
    have BE : Below w.heap.size w w1 := (show Below w.heap.size w _ from by (repeat (first | exact ext_refl _ | assumption | (refine ext_alloc ?_ _) | (refine ext_drewN ?_ _) | refine ext_drew ?_ | (refine ext_set (by first | (simp; done) | (simp; omega)) _ ?_) | (refine ext_trans ?_ (by assumption))))).trans (hb.mono (by simp))
    clear hb
    go_wp2
    go_ret
    exact ⟨⟨none, 0, rfl, by simp, by omega, fun i hi => by simp at hi, fun h => by simp at h⟩, BE⟩
  · obtain ⟨a, ha⟩ := ends_from l v
    obtain ⟨b, hb⟩ := ends_behind l v
    obtain ⟨he, hab⟩ := eqP_mid hk ha hb
    have hbl := hb.le
    have hel : (eqP l v).length = b - a := by rw [he, List.length_drop, List.length_take, allP_len]; omega
    obtain ⟨W0, hW0⟩ : ∃ W0, W0 = w.alloc (.cells #[.int .i64 v.k, .int .i64 v.n, .string v.s] 24) := ⟨_, rfl⟩
    have hB0 : Below w.heap.size w W0 := by rw [hW0]; (repeat (first | exact ext_refl _ | assumption | (refine ext_alloc ?_ _) | (refine ext_drewN ?_ _) | refine ext_drew ?_ | (refine ext_set (by first | (simp; done) | (simp; omega)) _ ?_) | (refine ext_trans ?_ (by assumption))))
    have hz : w.heap.size < W0.heap.size := by rw [hW0]; simp
    have b0 : W0.cell? ⟨w.heap.size, 0, none⟩ = some (.int .i64 v.k) := by rw [hW0]; simp [go_sem]
    have b1 : W0.cell? ⟨w.heap.size, 1, none⟩ = some (.int .i64 v.n) := by rw [hW0]; simp [go_sem]
    have b2 : W0.cell? ⟨w.heap.size, 2, none⟩ = some (.string v.s) := by rw [hW0]; simp [go_sem]
    have T0 := h1.below hB0
    have HW := Lib.hid hW0
    have HB0 := Lib.hid hB0
    have HT := Lib.hid T0
    have HC := Lib.hid (And.intro b0 (And.intro b1 b2))
    have HE := Lib.hid (And.intro ha hb)
    have HQ := Lib.hid he
    have NU := Lib.hid (fun W => isNull_any v W)
    rw [decide_eq_false hk] at NU
    rw [hel]
    generalize eqP l v = A at *
    clear hW0 hB0 T0 h h1 ha hb he hk
    obtain ⟨vk, vn, vs⟩ := v
    go_enter Try.func8, Try.ntmps8
    go_upto_region 1 with fail
    rw [← HW.out]
    clear HW
    go_wp2_with fail
    clear b0 b1 b2
    refine (NU.out _).mono ?_
    rintro e W1 ⟨rfl, hb1⟩
    have T1 := HT.out.below hb1
    obtain ⟨q2, c2, lo2, hi2, d1, d2, d3, d4, d5⟩ := T1.order
    have hzW : W0.heap.size ≤ W1.heap.size := hb1.size
    have lp := World.block_lt_of_cell? W1 ⟨p, 1, none⟩ (by rw [d1])
    have r0 := fun (z : After W1) => (z.cell w.heap.size 0 (by omega)).trans ((hb1.cell (p := ⟨w.heap.size, 0, none⟩) hz).trans HC.out.1)
    have r1 := fun (z : After W1) => (z.cell w.heap.size 1 (by omega)).trans ((hb1.cell (p := ⟨w.heap.size, 1, none⟩) hz).trans HC.out.2.1)
    have r2 := fun (z : After W1) => (z.cell w.heap.size 2 (by omega)).trans ((hb1.cell (p := ⟨w.heap.size, 2, none⟩) hz).trans HC.out.2.2)
    have r3 := fun (z : After W1) => (z.cell p 1 lp).trans d1
    have is := After.some W1
    have FF := Lib.hid (fun W' (hb : Below W1.heap.size W1 W') => firstFrom_any l p a ⟨vk, vn, vs⟩ W' (T1.below hb) HE.out.1)
    have FB := Lib.hid (fun W' (hb : Below W1.heap.size W1 W') => firstBehind_any l p b ⟨vk, vn, vs⟩ W' (T1.below hb) HE.out.2)
    have i1 : (0 : Int) ≤ (a : Int) := by omega
    have i2 : (a : Int) ≤ (b : Int) := by omega
    have i3 : (b : Int) ≤ (c2 : Int) := by omega
    have HI := Lib.hid d4
    have HB1 := Lib.hid hb1
    clear d1 d4 T1 hb1 NU
    go_wp2_with fail
    refine wp_region_after_tail 11 (by kernel_rfl) (by kernel_rfl) ?_
    simp only [List.take_succ_cons, List.take_zero, List.drop_succ_cons, List.drop_zero]
    repeat (quiet_step ((first | (go_at_call 19; exact calls_after (FF.out _ (After.below _))) | (go_at_call 20; exact calls_after (FB.out _ (After.below _))))))
    refine wpQuiet_nil ?_
    intro W2 hw
    have hb2 : Below W1.heap.size W1 W2 := by obtain ⟨x, rfl⟩ := hw; exact x.below
    clear r0 r1 r2 r3 is hw FF FB
    have hAl : (toInts A).length = b - a := by rw [toInts_len]; exact hel
    have CL := Lib.hid (clone_any (toInts A) (if c2 = a then q2 else Option.map (fun x => x.add a) q2) (c2 - a) lo2 hi2 W2 (by rw [hAl]; omega) (by rw [HQ.out]; exact (ints_mid HI.out (by rw [allP_len]; exact hbl) (by omega)).same (Same.of hb2 d5)) (Nat.le_trans d5 hb2.size))
    rw [hAl] at CL
    have HB2 := Lib.hid hb2
    clear hb2 hAl HQ HI hel
    generalize (if c2 = a then q2 else Option.map (fun x => x.add a) q2) = Q at CL ⊢
    go_wp2_with fail
    refine (CL.out).mono ?_
    rintro e w2 ⟨⟨q1, c1, rfl, o1⟩, hb⟩
    have hs1 : w.heap.size ≤ W2.heap.size := by have := HB2.out.size; omega
    have R := Lib.hid (show OwnInts w2 w.heap.size q1 c1 (toInts A) from ⟨o1.le, o1.le2, ArrA.wide o1.arr hs1 (Nat.le_refl _), o1.free⟩)
    have BE := Lib.hid ((HB0.out.trans (HB1.out.mono (by omega))).trans ((HB2.out.mono (by omega)).trans (hb.mono hs1)))
    clear o1 hb CL
    go_wp2
    go_ret
    exact ⟨⟨_, _, rfl, R.out⟩, BE.out⟩

end Go.Proofs.Ytflbeccfdbjbhaa
