/- The library's binary search over places, by either of the index's two comparisons. -/
import Derived.Test.YtflbeccfdbjbhaaIxO
namespace Go.Proofs.Ytflbeccfdbjbhaa
open Go.RowKit
set_option maxRecDepth 100000

/-- Where a search ends: all ahead of it go ahead of what is sought; from it on none does. -/
structure Ends (n k : Nat) (cf : Nat → Int) : Prop where
  le : k ≤ n
  ahead : ∀ t, t < k → cf t < 0
  from_ : ∀ t, k ≤ t → t < n → 0 ≤ cf t

set_option maxHeartbeats 2000000 in
theorem searchFrom_any (A : List Int) (v : Val) (cf : Nat → Int) (k b : Nat) (q : Option Addr) (c lo hi : Nat) (w : World) (_ : A.length ≤ c) (_ : c ≤ 9223372036854775807) (hl : A.length ≤ 1000000) (hA : IntsA w lo hi q A) (hh : hi ≤ w.heap.size)
    (hcall : ∀ (i : Nat) (x : Int), A[i]? = some x → ∀ W', Below w.heap.size w W' → Calls Try.prog 28 #[.int .i64 x, v.v, .pointer (some ⟨b, 0, none⟩)] W' fun e w' => e = .returned (.int .i64 (cf i)) ∧ Below W'.heap.size W' w') (hE : Ends A.length k cf) :
    Calls Try.prog 27 #[.slice q A.length c, v.v, .func (.func 28) #[] #[.pointer (some ⟨b, 0, none⟩)]] w fun e w' => e = .returned (.tuple #[.int .i64 (k : Int), .bool (decide (k < A.length) && decide (cf k = 0))]) ∧ Below w.heap.size w w' := by
  obtain ⟨vk, vn, vs⟩ := v
  obtain ⟨fin, hfin⟩ : ∃ fin, fin = (decide (k < A.length) && decide (cf k = 0)) := ⟨_, rfl⟩
  rw [← hfin]
  have HF := Lib.hid hfin
  obtain ⟨W0, hW0⟩ : ∃ W0, W0 = w.alloc (.cells #[.int .i64 vk, .int .i64 vn, .string vs] 24) := ⟨_, rfl⟩
  have hB0 : Below w.heap.size w W0 := by rw [hW0]; (repeat (first | exact ext_refl _ | assumption | (refine ext_alloc ?_ _) | (refine ext_drewN ?_ _) | refine ext_drew ?_ | (refine ext_set (by first | (simp; done) | (simp; omega)) _ ?_) | (refine ext_trans ?_ (by assumption))))
  have hz : w.heap.size < W0.heap.size := by rw [hW0]; simp
  have b0 : W0.cell? ⟨w.heap.size, 0, none⟩ = some (.int .i64 vk) := by rw [hW0]; simp [go_sem]
  have b1 : W0.cell? ⟨w.heap.size, 1, none⟩ = some (.int .i64 vn) := by rw [hW0]; simp [go_sem]
  have b2 : W0.cell? ⟨w.heap.size, 2, none⟩ = some (.string vs) := by rw [hW0]; simp [go_sem]
  have HW := Lib.hid hW0
  have HA := Lib.hid (hA.same (Same.of hB0 hh))
  have HC := Lib.hid (show ∀ (i : Nat) (x : Int), A[i]? = some x → ∀ W', Below W0.heap.size W0 W' → Calls Try.prog 28 #[.int .i64 x, .agg #[.int .i64 vk, .int .i64 vn, .string vs], .pointer (some ⟨b, 0, none⟩)] W' fun e w' => e = .returned (.int .i64 (cf i)) ∧ Below W'.heap.size W' w' from fun i x hx W' hb => hcall i x hx W' (hB0.trans (hb.mono (by omega))))
  have HB0 := Lib.hid hB0
  have HE := Lib.hid hE
  have hkn := hE.le
  have HK := Lib.hid (And.intro b0 (And.intro b1 b2))
  clear hA hW0 hB0 hcall hE hfin b0 b1 b2
  go_enter Try.func27, Try.ntmps27
  go_upto_region 1 with fail
  rw [← HW.out]
  clear HW
  go_wp2_with fail
  go_loopw [9, 10] (fun vi vj wr => ∃ (i j : Nat), vi = .int .i64 i ∧ vj = .int .i64 j ∧ i ≤ k ∧ k ≤ j ∧ j ≤ A.length ∧ Hid (Below W0.heap.size W0 wr)) (fun vi vj _ => (intOf vj).toNat - (intOf vi).toNat)
  case atStart => exact ⟨0, A.length, rfl, rfl, Nat.zero_le _, hkn, Nat.le_refl _, Below.refl _ _⟩
  case round =>
    obtain ⟨i, j, rfl, rfl, hik, hkj, hj, HH⟩ := hrel
    obtain ⟨V, hV⟩ : ∃ V, V = wr := ⟨_, rfl⟩
    subst hV
    have hsV := HH.out.size
    have q0 := fun (z : After V) => (z.cell w.heap.size 0 (Nat.lt_of_lt_of_le hz hsV)).trans ((HH.out.cell (p := ⟨w.heap.size, 0, none⟩) hz).trans HK.out.1)
    have q1 := fun (z : After V) => (z.cell w.heap.size 1 (Nat.lt_of_lt_of_le hz hsV)).trans ((HH.out.cell (p := ⟨w.heap.size, 1, none⟩) hz).trans HK.out.2.1)
    have q2 := fun (z : After V) => (z.cell w.heap.size 2 (Nat.lt_of_lt_of_le hz hsV)).trans ((HH.out.cell (p := ⟨w.heap.size, 2, none⟩) hz).trans HK.out.2.2)
    by_cases hlt : i < j
    · obtain ⟨h, hh'⟩ : ∃ h, h = (i + j) / 2 := ⟨_, rfl⟩
      have hh1 : i ≤ h ∧ h < j := by omega
      have hz2 : ((i : Int) + (j : Int)) / 2 = (h : Int) := by omega
      clear hh'
      obtain ⟨x, hx⟩ : ∃ x, A[h]? = some x := ⟨_, List.getElem?_eq_getElem (by omega)⟩
      obtain ⟨g, off, rfl, hg1, hg2, hcA⟩ := (HA.out.same (Same.of HH.out (by omega))) h (by omega)
      have a0 := hcA h x hx
      unfold intC at a0
      rw [Nat.mul_one] at a0
      have q3 := fun (z : After V) => (z.cell g (off + h) (by omega)).trans a0
      have hcm := Lib.hid (fun W' (hb : Below V.heap.size V W') => HC.out h x hx W' (HH.out.trans (hb.mono hsV)))
      have is := After.some V
      have z1 : (h : Int) < (A.length : Int) := by omega
      have z5 : IntKind.i64.wrap (h : Int) = (h : Int) := by rw [IntKind.wrap_i64]; omega
      clear a0 hcA hx
      cases hv : decide (cf h < 0) with
      | true =>
        have hlo : h + 1 ≤ k := by
          have h1 : cf h < 0 := of_decide_eq_true hv
          have h2 := HE.out.from_ h
          omega
        go_wp2_with fail
        refine wp_region_after (by kernel_rfl) (by kernel_rfl) ?_
        repeat (quiet_step ((first | (go_at_call 28; exact calls_after (hcm.out _ (After.below _))))))
        refine wpQuiet_nil ?_
        intro _ hw
        obtain ⟨⟨W1, hb1⟩, rfl⟩ := hw
        clear q0 q1 q2 q3 is hcm
        have NX := Lib.hid (HH.out.trans (hb1.mono hsV))
        clear hb1
        go_wp2
        go_roundw
        case rel => exact ⟨h + 1, j, by go_num, rfl, hlo, hkj, hj, NX⟩
        case measure => simp [intOf]; omega
      | false =>
        have hhi : k ≤ h := by
          have h1 : ¬ cf h < 0 := of_decide_eq_false hv
          have h2 := HE.out.ahead h
          omega
        go_wp2_with fail
        refine wp_region_after (by kernel_rfl) (by kernel_rfl) ?_
        repeat (quiet_step ((first | (go_at_call 28; exact calls_after (hcm.out _ (After.below _))))))
        refine wpQuiet_nil ?_
        intro _ hw
        obtain ⟨⟨W1, hb1⟩, rfl⟩ := hw
        clear q0 q1 q2 q3 is hcm
        have NX := Lib.hid (HH.out.trans (hb1.mono hsV))
        clear hb1
        go_wp2
        go_roundw
        case rel => exact ⟨i, h, rfl, rfl, hik, hhi, by omega, NX⟩
        case measure => simp [intOf]; omega
    · obtain rfl : i = k := by omega
      by_cases hkl : i < A.length
      · obtain ⟨x, hx⟩ : ∃ x, A[i]? = some x := ⟨_, List.getElem?_eq_getElem (by omega)⟩
        obtain ⟨g, off, rfl, hg1, hg2, hcA⟩ := (HA.out.same (Same.of HH.out (by omega))) i (by omega)
        have a0 := hcA i x hx
        unfold intC at a0
        rw [Nat.mul_one] at a0
        have q3 := fun (z : After V) => (z.cell g (off + i) (by omega)).trans a0
        have hcm := Lib.hid (fun W' (hb : Below V.heap.size V W') => HC.out i x hx W' (HH.out.trans (hb.mono hsV)))
        have is := After.some V
        have z1 : (i : Int) < (A.length : Int) := by omega
        have z5 : IntKind.i64.wrap (i : Int) = (i : Int) := by rw [IntKind.wrap_i64]; omega
        have hfe : (cf i == 0) = fin := by
          have := HF.out
          rw [this, decide_eq_true hkl, Bool.true_and]
          rw [Bool.eq_iff_iff]
          simp
        clear a0 hcA hx
        go_wp2_with fail
        refine wp_region_after (by kernel_rfl) (by kernel_rfl) ?_
        repeat (quiet_step ((first | (go_at_call 28; exact calls_after (hcm.out _ (After.below _))))))
        refine wpQuiet_nil ?_
        intro _ hw
        obtain ⟨⟨W1, hb1⟩, rfl⟩ := hw
        clear q0 q1 q2 q3 is hcm
        have NX := Lib.hid (HB0.out.trans ((HH.out.trans (hb1.mono hsV)).mono (by omega)))
        clear hb1
        go_wp2
        go_ret2
        exact ⟨rfl, NX.out⟩
      · have hfe : fin = false := by rw [HF.out, decide_eq_false hkl, Bool.false_and]
        subst hfe
        clear q0 q1 q2
        go_wp2_with fail
        have hg : decide ((i : Int) < (A.length : Int)) = false := decide_eq_false (by omega)
        go_big_quiet (fail)
        go_wp2
        go_ret2
        exact ⟨rfl, HB0.out.trans (((show Below V.heap.size V _ from by (repeat (first | exact ext_refl _ | assumption | (refine ext_alloc ?_ _) | (refine ext_drewN ?_ _) | refine ext_drew ?_ | (refine ext_set (by first | (simp; done) | (simp; omega)) _ ?_) | (refine ext_trans ?_ (by assumption))))).mono hsV).trans (Below.refl _ _) |> fun h => (HH.out.trans h).mono (by omega))⟩

set_option maxHeartbeats 2000000 in
theorem searchBehind_any (A : List Int) (v : Val) (cf : Nat → Int) (k b : Nat) (q : Option Addr) (c lo hi : Nat) (w : World) (_ : A.length ≤ c) (_ : c ≤ 9223372036854775807) (hl : A.length ≤ 1000000) (hA : IntsA w lo hi q A) (hh : hi ≤ w.heap.size)
    (hcall : ∀ (i : Nat) (x : Int), A[i]? = some x → ∀ W', Below w.heap.size w W' → Calls Try.prog 29 #[.int .i64 x, v.v, .pointer (some ⟨b, 0, none⟩)] W' fun e w' => e = .returned (.int .i64 (cf i)) ∧ Below W'.heap.size W' w') (hE : Ends A.length k cf) :
    Calls Try.prog 27 #[.slice q A.length c, v.v, .func (.func 29) #[] #[.pointer (some ⟨b, 0, none⟩)]] w fun e w' => e = .returned (.tuple #[.int .i64 (k : Int), .bool (decide (k < A.length) && decide (cf k = 0))]) ∧ Below w.heap.size w w' := by
  obtain ⟨vk, vn, vs⟩ := v
  obtain ⟨fin, hfin⟩ : ∃ fin, fin = (decide (k < A.length) && decide (cf k = 0)) := ⟨_, rfl⟩
  rw [← hfin]
  have HF := Lib.hid hfin
  obtain ⟨W0, hW0⟩ : ∃ W0, W0 = w.alloc (.cells #[.int .i64 vk, .int .i64 vn, .string vs] 24) := ⟨_, rfl⟩
  have hB0 : Below w.heap.size w W0 := by rw [hW0]; (repeat (first | exact ext_refl _ | assumption | (refine ext_alloc ?_ _) | (refine ext_drewN ?_ _) | refine ext_drew ?_ | (refine ext_set (by first | (simp; done) | (simp; omega)) _ ?_) | (refine ext_trans ?_ (by assumption))))
  have hz : w.heap.size < W0.heap.size := by rw [hW0]; simp
  have b0 : W0.cell? ⟨w.heap.size, 0, none⟩ = some (.int .i64 vk) := by rw [hW0]; simp [go_sem]
  have b1 : W0.cell? ⟨w.heap.size, 1, none⟩ = some (.int .i64 vn) := by rw [hW0]; simp [go_sem]
  have b2 : W0.cell? ⟨w.heap.size, 2, none⟩ = some (.string vs) := by rw [hW0]; simp [go_sem]
  have HW := Lib.hid hW0
  have HA := Lib.hid (hA.same (Same.of hB0 hh))
  have HC := Lib.hid (show ∀ (i : Nat) (x : Int), A[i]? = some x → ∀ W', Below W0.heap.size W0 W' → Calls Try.prog 29 #[.int .i64 x, .agg #[.int .i64 vk, .int .i64 vn, .string vs], .pointer (some ⟨b, 0, none⟩)] W' fun e w' => e = .returned (.int .i64 (cf i)) ∧ Below W'.heap.size W' w' from fun i x hx W' hb => hcall i x hx W' (hB0.trans (hb.mono (by omega))))
  have HB0 := Lib.hid hB0
  have HE := Lib.hid hE
  have hkn := hE.le
  have HK := Lib.hid (And.intro b0 (And.intro b1 b2))
  clear hA hW0 hB0 hcall hE hfin b0 b1 b2
  go_enter Try.func27, Try.ntmps27
  go_upto_region 1 with fail
  rw [← HW.out]
  clear HW
  go_wp2_with fail
  go_loopw [9, 10] (fun vi vj wr => ∃ (i j : Nat), vi = .int .i64 i ∧ vj = .int .i64 j ∧ i ≤ k ∧ k ≤ j ∧ j ≤ A.length ∧ Hid (Below W0.heap.size W0 wr)) (fun vi vj _ => (intOf vj).toNat - (intOf vi).toNat)
  case atStart => exact ⟨0, A.length, rfl, rfl, Nat.zero_le _, hkn, Nat.le_refl _, Below.refl _ _⟩
  case round =>
    obtain ⟨i, j, rfl, rfl, hik, hkj, hj, HH⟩ := hrel
    obtain ⟨V, hV⟩ : ∃ V, V = wr := ⟨_, rfl⟩
    subst hV
    have hsV := HH.out.size
    have q0 := fun (z : After V) => (z.cell w.heap.size 0 (Nat.lt_of_lt_of_le hz hsV)).trans ((HH.out.cell (p := ⟨w.heap.size, 0, none⟩) hz).trans HK.out.1)
    have q1 := fun (z : After V) => (z.cell w.heap.size 1 (Nat.lt_of_lt_of_le hz hsV)).trans ((HH.out.cell (p := ⟨w.heap.size, 1, none⟩) hz).trans HK.out.2.1)
    have q2 := fun (z : After V) => (z.cell w.heap.size 2 (Nat.lt_of_lt_of_le hz hsV)).trans ((HH.out.cell (p := ⟨w.heap.size, 2, none⟩) hz).trans HK.out.2.2)
    by_cases hlt : i < j
    · obtain ⟨h, hh'⟩ : ∃ h, h = (i + j) / 2 := ⟨_, rfl⟩
      have hh1 : i ≤ h ∧ h < j := by omega
      have hz2 : ((i : Int) + (j : Int)) / 2 = (h : Int) := by omega
      clear hh'
      obtain ⟨x, hx⟩ : ∃ x, A[h]? = some x := ⟨_, List.getElem?_eq_getElem (by omega)⟩
      obtain ⟨g, off, rfl, hg1, hg2, hcA⟩ := (HA.out.same (Same.of HH.out (by omega))) h (by omega)
      have a0 := hcA h x hx
      unfold intC at a0
      rw [Nat.mul_one] at a0
      have q3 := fun (z : After V) => (z.cell g (off + h) (by omega)).trans a0
      have hcm := Lib.hid (fun W' (hb : Below V.heap.size V W') => HC.out h x hx W' (HH.out.trans (hb.mono hsV)))
      have is := After.some V
      have z1 : (h : Int) < (A.length : Int) := by omega
      have z5 : IntKind.i64.wrap (h : Int) = (h : Int) := by rw [IntKind.wrap_i64]; omega
      clear a0 hcA hx
      cases hv : decide (cf h < 0) with
      | true =>
        have hlo : h + 1 ≤ k := by
          have h1 : cf h < 0 := of_decide_eq_true hv
          have h2 := HE.out.from_ h
          omega
        go_wp2_with fail
        refine wp_region_after (by kernel_rfl) (by kernel_rfl) ?_
        repeat (quiet_step ((first | (go_at_call 29; exact calls_after (hcm.out _ (After.below _))))))
        refine wpQuiet_nil ?_
        intro _ hw
        obtain ⟨⟨W1, hb1⟩, rfl⟩ := hw
        clear q0 q1 q2 q3 is hcm
        have NX := Lib.hid (HH.out.trans (hb1.mono hsV))
        clear hb1
        go_wp2
        go_roundw
        case rel => exact ⟨h + 1, j, by go_num, rfl, hlo, hkj, hj, NX⟩
        case measure => simp [intOf]; omega
      | false =>
        have hhi : k ≤ h := by
          have h1 : ¬ cf h < 0 := of_decide_eq_false hv
          have h2 := HE.out.ahead h
          omega
        go_wp2_with fail
        refine wp_region_after (by kernel_rfl) (by kernel_rfl) ?_
        repeat (quiet_step ((first | (go_at_call 29; exact calls_after (hcm.out _ (After.below _))))))
        refine wpQuiet_nil ?_
        intro _ hw
        obtain ⟨⟨W1, hb1⟩, rfl⟩ := hw
        clear q0 q1 q2 q3 is hcm
        have NX := Lib.hid (HH.out.trans (hb1.mono hsV))
        clear hb1
        go_wp2
        go_roundw
        case rel => exact ⟨i, h, rfl, rfl, hik, hhi, by omega, NX⟩
        case measure => simp [intOf]; omega
    · obtain rfl : i = k := by omega
      by_cases hkl : i < A.length
      · obtain ⟨x, hx⟩ : ∃ x, A[i]? = some x := ⟨_, List.getElem?_eq_getElem (by omega)⟩
        obtain ⟨g, off, rfl, hg1, hg2, hcA⟩ := (HA.out.same (Same.of HH.out (by omega))) i (by omega)
        have a0 := hcA i x hx
        unfold intC at a0
        rw [Nat.mul_one] at a0
        have q3 := fun (z : After V) => (z.cell g (off + i) (by omega)).trans a0
        have hcm := Lib.hid (fun W' (hb : Below V.heap.size V W') => HC.out i x hx W' (HH.out.trans (hb.mono hsV)))
        have is := After.some V
        have z1 : (i : Int) < (A.length : Int) := by omega
        have z5 : IntKind.i64.wrap (i : Int) = (i : Int) := by rw [IntKind.wrap_i64]; omega
        have hfe : (cf i == 0) = fin := by
          have := HF.out
          rw [this, decide_eq_true hkl, Bool.true_and]
          rw [Bool.eq_iff_iff]
          simp
        clear a0 hcA hx
        go_wp2_with fail
        refine wp_region_after (by kernel_rfl) (by kernel_rfl) ?_
        repeat (quiet_step ((first | (go_at_call 29; exact calls_after (hcm.out _ (After.below _))))))
        refine wpQuiet_nil ?_
        intro _ hw
        obtain ⟨⟨W1, hb1⟩, rfl⟩ := hw
        clear q0 q1 q2 q3 is hcm
        have NX := Lib.hid (HB0.out.trans ((HH.out.trans (hb1.mono hsV)).mono (by omega)))
        clear hb1
        go_wp2
        go_ret2
        exact ⟨rfl, NX.out⟩
      · have hfe : fin = false := by rw [HF.out, decide_eq_false hkl, Bool.false_and]
        subst hfe
        clear q0 q1 q2
        go_wp2_with fail
        have hg : decide ((i : Int) < (A.length : Int)) = false := decide_eq_false (by omega)
        go_big_quiet (fail)
        go_wp2
        go_ret2
        exact ⟨rfl, HB0.out.trans (((show Below V.heap.size V _ from by (repeat (first | exact ext_refl _ | assumption | (refine ext_alloc ?_ _) | (refine ext_drewN ?_ _) | refine ext_drew ?_ | (refine ext_set (by first | (simp; done) | (simp; omega)) _ ?_) | (refine ext_trans ?_ (by assumption))))).mono hsV).trans (Below.refl _ _) |> fun h => (HH.out.trans h).mono (by omega))⟩

end Go.Proofs.Ytflbeccfdbjbhaa
