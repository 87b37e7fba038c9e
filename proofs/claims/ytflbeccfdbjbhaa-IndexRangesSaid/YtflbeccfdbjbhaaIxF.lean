/- The index's two comparisons and its two searches in the order. -/
import Derived.Test.YtflbeccfdbjbhaaIxB
namespace Go.Proofs.Ytflbeccfdbjbhaa
open Go.RowKit
set_option maxRecDepth 100000

set_option maxHeartbeats 1000000 in
theorem fromFn_any (l : List Val) (n b p c lo hi : Nat) (q : Option Addr) (v : Val) (w : World) (hn : n < l.length) (_ : l.length ≤ c) (_ : c ≤ 9223372036854775807) (hb : w.cell? ⟨b, 0, none⟩ = some (.pointer (some ⟨p, 0, none⟩))) (hp : w.cell? ⟨p, 0, none⟩ = some (.slice q l.length c)) (hV : ValsA w lo hi q l) (hh : hi ≤ w.heap.size) :
    Calls Try.prog 28 #[.int .i64 (n : Int), v.v, .pointer (some ⟨b, 0, none⟩)] w fun e w' => e = .returned (.int .i64 ((valAt l n).cmp v)) ∧ Below w.heap.size w w' := by
  obtain ⟨vk, vn, vs⟩ := v
  obtain ⟨x, hx⟩ : ∃ x, l[n]? = some x := ⟨_, List.getElem?_eq_getElem hn⟩
  rw [valAt_get hx]
  obtain ⟨W0, hW0⟩ : ∃ W0, W0 = w.alloc (.cells #[.int .i64 vk, .int .i64 vn, .string vs] 24) := ⟨_, rfl⟩
  have hB0 : Below w.heap.size w W0 := by rw [hW0]; (repeat (first | exact ext_refl _ | assumption | (refine ext_alloc ?_ _) | (refine ext_drewN ?_ _) | refine ext_drew ?_ | (refine ext_set (by first | (simp; done) | (simp; omega)) _ ?_) | (refine ext_trans ?_ (by assumption))))
  have hz : w.heap.size < W0.heap.size := by rw [hW0]; simp
  have b0 : W0.cell? ⟨w.heap.size, 0, none⟩ = some (.int .i64 vk) := by rw [hW0]; simp [go_sem]
  have b1 : W0.cell? ⟨w.heap.size, 1, none⟩ = some (.int .i64 vn) := by rw [hW0]; simp [go_sem]
  have b2 : W0.cell? ⟨w.heap.size, 2, none⟩ = some (.string vs) := by rw [hW0]; simp [go_sem]
  have l1 := World.block_lt_of_cell? w ⟨b, 0, none⟩ (by rw [hb])
  have l2 := World.block_lt_of_cell? w ⟨p, 0, none⟩ (by rw [hp])
  obtain ⟨g, off, rfl, hg1, hg2, hcA⟩ := hV n hn
  obtain ⟨a0, a1, a2⟩ := hcA n x hx
  have lg : g < w.heap.size := by omega
  have L : ∀ k, k < w.heap.size → k < W0.heap.size := fun k hk => by omega
  have q0 := fun (z : After W0) => (z.cell w.heap.size 0 hz).trans b0
  have q1 := fun (z : After W0) => (z.cell w.heap.size 1 hz).trans b1
  have q2 := fun (z : After W0) => (z.cell w.heap.size 2 hz).trans b2
  have q3 := fun (z : After W0) => (z.cell b 0 (L b l1)).trans ((hB0.cell (p := ⟨b, 0, none⟩) l1).trans hb)
  have q4 := fun (z : After W0) => (z.cell p 0 (L p l2)).trans ((hB0.cell (p := ⟨p, 0, none⟩) l2).trans hp)
  have q5 := fun (z : After W0) => (z.cell g (off + n * 3) (L g lg)).trans ((hB0.cell (p := ⟨g, _, none⟩) lg).trans a0)
  have q6 := fun (z : After W0) => (z.cell g (off + n * 3 + 1) (L g lg)).trans ((hB0.cell (p := ⟨g, _, none⟩) lg).trans a1)
  have q7 := fun (z : After W0) => (z.cell g (off + n * 3 + 2) (L g lg)).trans ((hB0.cell (p := ⟨g, _, none⟩) lg).trans a2)
  have is := After.some W0
  have z1 : (n : Int) < (l.length : Int) := by omega
  have z5 : IntKind.i64.wrap (n : Int) = (n : Int) := by rw [IntKind.wrap_i64]; omega
  have HW := Lib.hid hW0
  have HB0 := Lib.hid hB0
  clear hW0 hB0 b0 b1 b2 hb hp hcA hV a0 a1 a2 L hx
  obtain ⟨xk, xn, xs⟩ := x
  go_enter Try.func28, Try.ntmps28
  go_upto_region 1 with fail
  rw [← HW.out]
  clear HW
  go_wp2_with fail
  refine wp_region_after (by kernel_rfl) (by kernel_rfl) ?_
  repeat (quiet_step ((first | (go_at_call 11; exact calls_after (compare_any ⟨xk, xn, xs⟩ ⟨vk, vn, vs⟩ _)))))
  refine wpQuiet_nil ?_
  intro _ hw
  obtain ⟨⟨W1, hb1⟩, rfl⟩ := hw
  clear q0 q1 q2 q3 q4 q5 q6 q7 is
  go_wp2
  go_ret
  exact ⟨rfl, HB0.out.trans (hb1.mono (by omega))⟩

set_option maxHeartbeats 1000000 in
theorem behindFn_any (l : List Val) (n b p c lo hi : Nat) (q : Option Addr) (v : Val) (w : World) (hn : n < l.length) (_ : l.length ≤ c) (_ : c ≤ 9223372036854775807) (hb : w.cell? ⟨b, 0, none⟩ = some (.pointer (some ⟨p, 0, none⟩))) (hp : w.cell? ⟨p, 0, none⟩ = some (.slice q l.length c)) (hV : ValsA w lo hi q l) (hh : hi ≤ w.heap.size) :
    Calls Try.prog 29 #[.int .i64 (n : Int), v.v, .pointer (some ⟨b, 0, none⟩)] w fun e w' => e = .returned (.int .i64 (if 0 < (valAt l n).cmp v then 1 else -1)) ∧ Below w.heap.size w w' := by
  obtain ⟨vk, vn, vs⟩ := v
  obtain ⟨x, hx⟩ : ∃ x, l[n]? = some x := ⟨_, List.getElem?_eq_getElem hn⟩
  rw [valAt_get hx]
  obtain ⟨W0, hW0⟩ : ∃ W0, W0 = w.alloc (.cells #[.int .i64 vk, .int .i64 vn, .string vs] 24) := ⟨_, rfl⟩
  have hB0 : Below w.heap.size w W0 := by rw [hW0]; (repeat (first | exact ext_refl _ | assumption | (refine ext_alloc ?_ _) | (refine ext_drewN ?_ _) | refine ext_drew ?_ | (refine ext_set (by first | (simp; done) | (simp; omega)) _ ?_) | (refine ext_trans ?_ (by assumption))))
  have hz : w.heap.size < W0.heap.size := by rw [hW0]; simp
  have b0 : W0.cell? ⟨w.heap.size, 0, none⟩ = some (.int .i64 vk) := by rw [hW0]; simp [go_sem]
  have b1 : W0.cell? ⟨w.heap.size, 1, none⟩ = some (.int .i64 vn) := by rw [hW0]; simp [go_sem]
  have b2 : W0.cell? ⟨w.heap.size, 2, none⟩ = some (.string vs) := by rw [hW0]; simp [go_sem]
  have l1 := World.block_lt_of_cell? w ⟨b, 0, none⟩ (by rw [hb])
  have l2 := World.block_lt_of_cell? w ⟨p, 0, none⟩ (by rw [hp])
  obtain ⟨g, off, rfl, hg1, hg2, hcA⟩ := hV n hn
  obtain ⟨a0, a1, a2⟩ := hcA n x hx
  have lg : g < w.heap.size := by omega
  have L : ∀ k, k < w.heap.size → k < W0.heap.size := fun k hk => by omega
  have q0 := fun (z : After W0) => (z.cell w.heap.size 0 hz).trans b0
  have q1 := fun (z : After W0) => (z.cell w.heap.size 1 hz).trans b1
  have q2 := fun (z : After W0) => (z.cell w.heap.size 2 hz).trans b2
  have q3 := fun (z : After W0) => (z.cell b 0 (L b l1)).trans ((hB0.cell (p := ⟨b, 0, none⟩) l1).trans hb)
  have q4 := fun (z : After W0) => (z.cell p 0 (L p l2)).trans ((hB0.cell (p := ⟨p, 0, none⟩) l2).trans hp)
  have q5 := fun (z : After W0) => (z.cell g (off + n * 3) (L g lg)).trans ((hB0.cell (p := ⟨g, _, none⟩) lg).trans a0)
  have q6 := fun (z : After W0) => (z.cell g (off + n * 3 + 1) (L g lg)).trans ((hB0.cell (p := ⟨g, _, none⟩) lg).trans a1)
  have q7 := fun (z : After W0) => (z.cell g (off + n * 3 + 2) (L g lg)).trans ((hB0.cell (p := ⟨g, _, none⟩) lg).trans a2)
  have is := After.some W0
  have z1 : (n : Int) < (l.length : Int) := by omega
  have z5 : IntKind.i64.wrap (n : Int) = (n : Int) := by rw [IntKind.wrap_i64]; omega
  have HW := Lib.hid hW0
  have HB0 := Lib.hid hB0
  clear hW0 hB0 b0 b1 b2 hb hp hcA hV a0 a1 a2 L hx
  obtain ⟨xk, xn, xs⟩ := x
  have CC := fun W => compare_any ⟨xk, xn, xs⟩ ⟨vk, vn, vs⟩ W
  generalize (⟨xk, xn, xs⟩ : Val).cmp ⟨vk, vn, vs⟩ = cm at CC ⊢
  have HCC := Lib.hid CC
  clear CC
  cases hv : decide (cm > 0) with
  | true =>
    have hp : 0 < cm := of_decide_eq_true hv
    rw [if_pos hp]
    clear hp
    go_enter Try.func29, Try.ntmps29
    go_upto_region 1 with fail
    rw [← HW.out]
    clear HW
    go_wp2_with fail
    refine wp_region_after (by kernel_rfl) (by kernel_rfl) ?_
    repeat (quiet_step ((first | (go_at_call 11; exact calls_after (HCC.out _)))))
    refine wpQuiet_nil ?_
    intro _ hw
    obtain ⟨⟨W1, hb1⟩, rfl⟩ := hw
    clear q0 q1 q2 q3 q4 q5 q6 q7 is
    go_wp2
    go_ret
    exact ⟨rfl, HB0.out.trans (hb1.mono (by omega))⟩
  | false =>
    have hp : ¬ 0 < cm := of_decide_eq_false hv
    rw [if_neg hp]
    clear hp
    go_enter Try.func29, Try.ntmps29
    go_upto_region 1 with fail
    rw [← HW.out]
    clear HW
    go_wp2_with fail
    refine wp_region_after (by kernel_rfl) (by kernel_rfl) ?_
    repeat (quiet_step ((first | (go_at_call 11; exact calls_after (HCC.out _)))))
    refine wpQuiet_nil ?_
    intro _ hw
    obtain ⟨⟨W1, hb1⟩, rfl⟩ := hw
    clear q0 q1 q2 q3 q4 q5 q6 q7 is
    go_wp2
    go_ret
    exact ⟨rfl, HB0.out.trans (hb1.mono (by omega))⟩

/-- The value at a place of the order. -/
def ordAt (l : List Val) (t : Nat) : Val := valAt l (((allP l)[t]?).getD 0)
theorem ordAt_get {l : List Val} {t n : Nat} (h : (allP l)[t]? = some n) : ordAt l t = valAt l n := by unfold ordAt; rw [h]; rfl
def cfFrom (l : List Val) (v : Val) (t : Nat) : Int := (ordAt l t).cmp v
def cfBehind (l : List Val) (v : Val) (t : Nat) : Int := if 0 < (ordAt l t).cmp v then 1 else -1

/-- What is held of an index's first two fields. -/
structure TwoP (w : World) (p : Nat) (l : List Val) : Prop where
  few : l.length ≤ 1000
  vals : ∃ q c lo hi, w.cell? ⟨p, 0, none⟩ = some (.slice q l.length c) ∧ l.length ≤ c ∧ c ≤ 9223372036854775807 ∧ ValsA w lo hi q l ∧ hi ≤ w.heap.size
  order : ∃ q c lo hi, w.cell? ⟨p, 1, none⟩ = some (.slice q l.length c) ∧ l.length ≤ c ∧ c ≤ 9223372036854775807 ∧ IntsA w lo hi q (toInts (allP l)) ∧ hi ≤ w.heap.size
theorem TwoP.below {w w' : World} {p : Nat} {l : List Val} (h : TwoP w p l) (hb : Below w.heap.size w w') : TwoP w' p l := by
  obtain ⟨q, c, lo, hi, a1, a2, a3, a4, a5⟩ := h.vals
  obtain ⟨q', c', lo', hi', b1, b2, b3, b4, b5⟩ := h.order
  have hlt := World.block_lt_of_cell? w ⟨p, 0, none⟩ (by rw [a1])
  exact ⟨h.few, ⟨q, c, lo, hi, (hb.cell (p := ⟨p, 0, none⟩) hlt).trans a1, a2, a3, a4.same (Same.of hb a5), Nat.le_trans a5 hb.size⟩, ⟨q', c', lo', hi', (hb.cell (p := ⟨p, 1, none⟩) hlt).trans b1, b2, b3, b4.same (Same.of hb b5), Nat.le_trans b5 hb.size⟩⟩

set_option maxHeartbeats 1000000 in
theorem firstFrom_any (l : List Val) (p k : Nat) (v : Val) (w : World) (h : TwoP w p l) (hE : Ends l.length k (cfFrom l v)) :
    Calls Try.prog 19 #[.pointer (some ⟨p, 0, none⟩), v.v] w fun e w' => e = .returned (.int .i64 (k : Int)) ∧ Below w.heap.size w w' := by
  obtain ⟨q1, c1, lo1, hi1, a1, a2, a3, a4, a5⟩ := h.vals
  obtain ⟨q2, c2, lo2, hi2, b1, b2, b3, b4, b5⟩ := h.order
  have hfew := h.few
  obtain ⟨vk, vn, vs⟩ := v
  obtain ⟨W0, hW0⟩ : ∃ W0, W0 = (w.alloc (.cells #[.pointer (some ⟨p, 0, none⟩)] 27)).alloc (.cells #[.int .i64 vk, .int .i64 vn, .string vs] 24) := ⟨_, rfl⟩
  have hB0 : Below w.heap.size w W0 := by rw [hW0]; (repeat (first | exact ext_refl _ | assumption | (refine ext_alloc ?_ _) | (refine ext_drewN ?_ _) | refine ext_drew ?_ | (refine ext_set (by first | (simp; done) | (simp; omega)) _ ?_) | (refine ext_trans ?_ (by assumption))))
  have hz : w.heap.size + 1 < W0.heap.size := by rw [hW0]; simp
  have hz0 : w.heap.size < W0.heap.size := by omega
  have d0 : W0.cell? ⟨w.heap.size + 1, 0, none⟩ = some (.int .i64 vk) := by rw [hW0]; simp [go_sem]
  have d1 : W0.cell? ⟨w.heap.size + 1, 1, none⟩ = some (.int .i64 vn) := by rw [hW0]; simp [go_sem]
  have d2 : W0.cell? ⟨w.heap.size + 1, 2, none⟩ = some (.string vs) := by rw [hW0]; simp [go_sem]
  have d3 : W0.cell? ⟨w.heap.size, 0, none⟩ = some (.pointer (some ⟨p, 0, none⟩)) := by rw [hW0]; simp [go_sem]
  have lp := World.block_lt_of_cell? w ⟨p, 0, none⟩ (by rw [a1])
  have lp2 : p < W0.heap.size := Nat.lt_trans lp hz0
  have e0 := (hB0.cell (p := ⟨p, 0, none⟩) lp).trans a1
  have e1 := (hB0.cell (p := ⟨p, 1, none⟩) lp).trans b1
  have V0 := a4.same (Same.of hB0 a5)
  have I0 := b4.same (Same.of hB0 b5)
  have hlen : (toInts (allP l)).length = l.length := by rw [toInts_len, allP_len]
  have SR := Lib.hid (fun W' (hb : Below W0.heap.size W0 W') => searchFrom_any (toInts (allP l)) ⟨vk, vn, vs⟩ (cfFrom l ⟨vk, vn, vs⟩) k w.heap.size q2 c2 lo2 hi2 W' (by rw [hlen]; exact b2) b3 (by rw [hlen]; omega) (I0.same (Same.of hb (by omega))) (Nat.le_trans (by omega) hb.size)
    (fun i x hx W2 hb2 => by
      obtain ⟨n, hn, rfl⟩ := toInts_get hx
      have hnl : n < l.length := allP_mem.1 (List.mem_of_getElem? hn)
      have hb3 := hb.trans (hb2.mono hb.size)
      unfold cfFrom
      rw [ordAt_get hn]
      exact fromFn_any l n w.heap.size p c1 lo1 hi1 q1 ⟨vk, vn, vs⟩ W2 hnl a2 a3 ((hb3.cell (p := ⟨w.heap.size, 0, none⟩) hz0).trans d3) ((hb3.cell (p := ⟨p, 0, none⟩) lp2).trans e0) (V0.same (Same.of hb3 (by omega))) (Nat.le_trans (by omega) hb3.size))
    (by rw [hlen]; exact hE))
  rw [hlen] at SR
  have r0 := fun (z : After W0) => (z.cell (w.heap.size + 1) 0 hz).trans d0
  have r1 := fun (z : After W0) => (z.cell (w.heap.size + 1) 1 hz).trans d1
  have r2 := fun (z : After W0) => (z.cell (w.heap.size + 1) 2 hz).trans d2
  have r3 := fun (z : After W0) => (z.cell w.heap.size 0 hz0).trans d3
  have r4 := fun (z : After W0) => (z.cell p 1 lp2).trans e1
  have is := After.some W0
  have HW := Lib.hid hW0
  have HB0 := Lib.hid hB0
  clear hW0 hB0 d0 d1 d2 d3 e0 e1 V0 I0 h hE hlen a1 a4 b1 b4
  go_enter Try.func19, Try.ntmps19
  go_upto_region 1 with fail
  rw [← HW.out]
  clear HW
  go_wp2_with fail
  refine wp_region_after (by kernel_rfl) (by kernel_rfl) ?_
  repeat (quiet_step ((first | (go_at_call 27; exact calls_after (SR.out _ (After.below _))))))
  refine wpQuiet_nil ?_
  intro _ hw
  obtain ⟨⟨W1, hb1⟩, rfl⟩ := hw
  clear r0 r1 r2 r3 r4 is SR
  go_wp2
  go_ret
  exact ⟨rfl, HB0.out.trans (hb1.mono (by omega))⟩

set_option maxHeartbeats 1000000 in
theorem firstBehind_any (l : List Val) (p k : Nat) (v : Val) (w : World) (h : TwoP w p l) (hE : Ends l.length k (cfBehind l v)) :
    Calls Try.prog 20 #[.pointer (some ⟨p, 0, none⟩), v.v] w fun e w' => e = .returned (.int .i64 (k : Int)) ∧ Below w.heap.size w w' := by
  obtain ⟨q1, c1, lo1, hi1, a1, a2, a3, a4, a5⟩ := h.vals
  obtain ⟨q2, c2, lo2, hi2, b1, b2, b3, b4, b5⟩ := h.order
  have hfew := h.few
  obtain ⟨vk, vn, vs⟩ := v
  obtain ⟨W0, hW0⟩ : ∃ W0, W0 = (w.alloc (.cells #[.pointer (some ⟨p, 0, none⟩)] 27)).alloc (.cells #[.int .i64 vk, .int .i64 vn, .string vs] 24) := ⟨_, rfl⟩
  have hB0 : Below w.heap.size w W0 := by rw [hW0]; (repeat (first | exact ext_refl _ | assumption | (refine ext_alloc ?_ _) | (refine ext_drewN ?_ _) | refine ext_drew ?_ | (refine ext_set (by first | (simp; done) | (simp; omega)) _ ?_) | (refine ext_trans ?_ (by assumption))))
  have hz : w.heap.size + 1 < W0.heap.size := by rw [hW0]; simp
  have hz0 : w.heap.size < W0.heap.size := by omega
  have d0 : W0.cell? ⟨w.heap.size + 1, 0, none⟩ = some (.int .i64 vk) := by rw [hW0]; simp [go_sem]
  have d1 : W0.cell? ⟨w.heap.size + 1, 1, none⟩ = some (.int .i64 vn) := by rw [hW0]; simp [go_sem]
  have d2 : W0.cell? ⟨w.heap.size + 1, 2, none⟩ = some (.string vs) := by rw [hW0]; simp [go_sem]
  have d3 : W0.cell? ⟨w.heap.size, 0, none⟩ = some (.pointer (some ⟨p, 0, none⟩)) := by rw [hW0]; simp [go_sem]
  have lp := World.block_lt_of_cell? w ⟨p, 0, none⟩ (by rw [a1])
  have lp2 : p < W0.heap.size := Nat.lt_trans lp hz0
  have e0 := (hB0.cell (p := ⟨p, 0, none⟩) lp).trans a1
  have e1 := (hB0.cell (p := ⟨p, 1, none⟩) lp).trans b1
  have V0 := a4.same (Same.of hB0 a5)
  have I0 := b4.same (Same.of hB0 b5)
  have hlen : (toInts (allP l)).length = l.length := by rw [toInts_len, allP_len]
  have SR := Lib.hid (fun W' (hb : Below W0.heap.size W0 W') => searchBehind_any (toInts (allP l)) ⟨vk, vn, vs⟩ (cfBehind l ⟨vk, vn, vs⟩) k w.heap.size q2 c2 lo2 hi2 W' (by rw [hlen]; exact b2) b3 (by rw [hlen]; omega) (I0.same (Same.of hb (by omega))) (Nat.le_trans (by omega) hb.size)
    (fun i x hx W2 hb2 => by
      obtain ⟨n, hn, rfl⟩ := toInts_get hx
      have hnl : n < l.length := allP_mem.1 (List.mem_of_getElem? hn)
      have hb3 := hb.trans (hb2.mono hb.size)
      unfold cfBehind
      rw [ordAt_get hn]
      exact behindFn_any l n w.heap.size p c1 lo1 hi1 q1 ⟨vk, vn, vs⟩ W2 hnl a2 a3 ((hb3.cell (p := ⟨w.heap.size, 0, none⟩) hz0).trans d3) ((hb3.cell (p := ⟨p, 0, none⟩) lp2).trans e0) (V0.same (Same.of hb3 (by omega))) (Nat.le_trans (by omega) hb3.size))
    (by rw [hlen]; exact hE))
  rw [hlen] at SR
  have r0 := fun (z : After W0) => (z.cell (w.heap.size + 1) 0 hz).trans d0
  have r1 := fun (z : After W0) => (z.cell (w.heap.size + 1) 1 hz).trans d1
  have r2 := fun (z : After W0) => (z.cell (w.heap.size + 1) 2 hz).trans d2
  have r3 := fun (z : After W0) => (z.cell w.heap.size 0 hz0).trans d3
  have r4 := fun (z : After W0) => (z.cell p 1 lp2).trans e1
  have is := After.some W0
  have HW := Lib.hid hW0
  have HB0 := Lib.hid hB0
  clear hW0 hB0 d0 d1 d2 d3 e0 e1 V0 I0 h hE hlen a1 a4 b1 b4
  go_enter Try.func20, Try.ntmps20
  go_upto_region 1 with fail
  rw [← HW.out]
  clear HW
  go_wp2_with fail
  refine wp_region_after (by kernel_rfl) (by kernel_rfl) ?_
  repeat (quiet_step ((first | (go_at_call 27; exact calls_after (SR.out _ (After.below _))))))
  refine wpQuiet_nil ?_
  intro _ hw
  obtain ⟨⟨W1, hb1⟩, rfl⟩ := hw
  clear r0 r1 r2 r3 r4 is SR
  go_wp2
  go_ret
  exact ⟨rfl, HB0.out.trans (hb1.mono (by omega))⟩

end Go.Proofs.Ytflbeccfdbjbhaa
