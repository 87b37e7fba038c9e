/- What is left of a bag without another one, and what they share, is the bag: whatever the texts. Conditions: none. -/
import Derived.Test.YtinonaiolhgklaaBgE
import Derived.Test.YtinonaiolhgklaaBgO
namespace Go.Proofs.Ytinonaiolhgklaa
open Go.ChangeShapes Go.WideShapes Go.ChangeAt Go.RowKit Go.Joins Go.Maps
open Go.Proofs (encStr)

theorem rev_length (T : Nat → ByteArray) (k : Nat) : (lst T k).reverse.length = k := by rw [List.length_reverse, lst_length]

set_option maxRecDepth 100000 in
set_option maxHeartbeats 4000000 in
theorem less_walk (q1 : Option Addr) (n1 c1 k1 : Nat) (T1 : Nat → ByteArray) (q2 : Option Addr) (n2 c2 k2 : Nat) (T2 : Nat → ByteArray) (w : World) (hc1 : n1 ≤ c1) (hc2 : n2 ≤ c2) (hn1 : n1 ≤ 9223372036854775807) (hn2 : n2 ≤ 9223372036854775807) (hm1 : min (n1 : Int) 100 = (k1 : Int)) (hm2 : min (n2 : Int) 100 = (k2 : Int))
    (hT1 : TxtP w q1 k1 T1) (hT2 : TxtP w q2 k2 T2) (hs1 : ∀ i, i < k1 → (T1 i).size ≤ 9223372036854775807) (hs2 : ∀ i, i < k2 → (T2 i).size ≤ 9223372036854775807) :
    Calls Try.prog 7 #[.slice q1 n1 c1, .slice q2 n2 c2] w fun e w' => e = .returned (.bool true) ∧ Below w.heap.size w w' := by
  have hk1 : k1 ≤ n1 := by omega
  have hk2 : k2 ≤ n2 := by omega
  have hl1 : k1 ≤ 100 := by omega
  have hl2 : k2 ≤ 100 := by omega
  go_enter Try.func7, Try.ntmps7
  go_wp2_with fail
  refine (ex3_any _).mono ?_
  rintro e w1 ⟨rfl, hb1⟩
  have hT11 := hT1.ext hb1
  have hT21 := hT2.ext hb1
  have E1 := Lib.hid hb1
  clear hT1 hT2 hb1
  go_wp2_with fail
  refine (of_any q1 k1 c1 T1 w1 hT11 (by omega) hs1).mono ?_
  rintro e w2 ⟨pa, ma, rfl, hA, hb2, hpa, hma⟩
  have hlA := rev_length T1 k1
  generalize (lst T1 k1).reverse = A at hA hlA
  have HLA := Lib.hid hlA
  have hT22 := hT21.ext hb2
  have E2 := Lib.hid (ext_trans E1.out hb2)
  clear hT21 hT11 hb2 hlA
  go_wp2_with fail
  refine (of_any q2 k2 c2 T2 w2 hT22 (by omega) hs2).mono ?_
  rintro e w3 ⟨pb, mb, rfl, hB, hb3, hpb, hmb⟩
  have hlB := rev_length T2 k2
  generalize (lst T2 k2).reverse = B at hB hlB
  have HLB := Lib.hid hlB
  have hA3 := hA.ext hb3
  have E3 := Lib.hid (ext_trans E2.out hb3)
  clear hT22 hb3 hlB hA hs1 hs2
  go_wp2_with fail
  refine (less_any pa ma k1 pb mb k2 A B w3 hA3 hB (by have := HLA.out; omega) (by have := HLB.out; omega)).mono ?_
  rintro e w4 ⟨pc, mc, C, rfl, hC, hcc, hb4, hpc, hmc⟩
  have hA4 := hA3.ext hb4
  have hB4 := hB.ext hb4
  have E4 := Lib.hid (ext_trans E3.out hb4)
  have HCC := Lib.hid hcc
  have HLC := Lib.hid (length_of_counts (A := C) (B := A) fun s => by rw [hcc s]; omega)
  clear hA3 hB hb4 hcc
  go_wp2_with fail
  refine (less_any pa ma k1 pc mc A.length A C w4 hA4 hC (by have := HLA.out; omega) (by have := HLA.out; have := HLC.out; omega)).mono ?_
  rintro e w5 ⟨pd, md, D, rfl, hD, hcd, hb5, hpd, hmd⟩
  have hA5 := hA4.ext hb5
  have hB5 := hB4.ext hb5
  have hC5 := hC.ext hb5
  have E5 := Lib.hid (ext_trans E4.out hb5)
  have HCD := Lib.hid hcd
  have HLD := Lib.hid (length_of_counts (A := D) (B := A) fun s => by rw [hcd s]; omega)
  clear hA4 hB4 hC hb5 hcd
  go_wp2_with fail
  refine (within_any pd md _ pb mb _ D B w5 hD hB5).mono ?_
  rintro e w6 ⟨rfl, hb6⟩
  rw [show within D B = true from within_iff.2 fun s => by rw [HCD.out s, HCC.out s]; omega]
  have hA6 := hA5.ext hb6
  have hB6 := hB5.ext hb6
  have hC6 := hC5.ext hb6
  have hD6 := hD.ext hb6
  have E6 := Lib.hid (ext_trans E5.out hb6)
  clear hA5 hB5 hC5 hD hb6
  go_wp2_with fail
  refine (within_any pc mc _ pa ma _ C A w6 hC6 hA6).mono ?_
  rintro e w7 ⟨rfl, hb7⟩
  rw [show within C A = true from within_iff.2 fun s => by rw [HCC.out s]; omega]
  have hA7 := hA6.ext hb7
  have hB7 := hB6.ext hb7
  have hC7 := hC6.ext hb7
  have hD7 := hD6.ext hb7
  have E7 := Lib.hid (ext_trans E6.out hb7)
  clear hA6 hB6 hC6 hD6 hb7
  go_wp2_with fail
  refine (both_any pc mc _ pd md _ C D w7 hC7 hD7 (by have := HLA.out; have := HLC.out; have := HLD.out; omega)).mono ?_
  rintro e w8 ⟨pe, me, F, rfl, hF, hcf, hb8, hpe, hme⟩
  have hA8 := hA7.ext hb8
  have hB8 := hB7.ext hb8
  have hC8 := hC7.ext hb8
  have E8 := Lib.hid (ext_trans E7.out hb8)
  have HCF := Lib.hid hcf
  clear hA7 hB7 hC7 hD7 hb8 hcf
  go_wp2_with fail
  refine (same_any pe me _ pa ma _ F A w8 hF hA8).mono ?_
  rintro e w9 ⟨rfl, hb9⟩
  rw [show same F A = true from same_iff.2 fun s => by rw [HCF.out s, HCD.out s, HCC.out s]; omega]
  have hA9 := hA8.ext hb9
  have hB9 := hB8.ext hb9
  have hC9 := hC8.ext hb9
  have E9 := Lib.hid (ext_trans E8.out hb9)
  clear hA8 hB8 hC8 hF hb9
  go_wp2_with fail
  refine (len_any pc mc _ C w9 hC9).mono ?_
  rintro e w10 ⟨rfl, rfl⟩
  have hLen : decide ((C.length : Int) = 0) = within A B := by
    have h0 : within A B = true ↔ C.length = 0 := by
      rw [within_iff]
      constructor
      · intro h
        have := length_of_counts (A := C) (B := []) fun s => by rw [HCC.out s]; have := h s; simp; omega
        simpa using this
      · intro h s
        have h1 := HCC.out s
        rw [List.length_eq_zero_iff.1 h] at h1
        simp at h1
        omega
    cases hw : within A B
    · have : ¬ C.length = 0 := fun k => by rw [h0.2 k] at hw; cases hw
      exact decide_eq_false (by omega)
    · have := h0.1 hw
      exact decide_eq_true (by omega)
  have HLN := Lib.hid hLen
  clear hLen
  go_wp2_with fail
  refine (within_any pa ma _ pb mb _ A B w10 hA9 hB9).mono ?_
  rintro e w11 ⟨rfl, hb11⟩
  cases hw : within A B
  · have hz : ¬ C.length = 0 := fun k => by have := HLN.out; rw [hw, k] at this; simp at this
    have hz' : ¬ (C.length : Int) = 0 := by omega
    have hzl : C ≠ [] := fun k => hz (by rw [k]; rfl)
    go_wp2
    go_ret
    exact ⟨by simp [hzl], ext_trans E9.out hb11⟩
  · have hz : C.length = 0 := by have := HLN.out; rw [hw] at this; simpa using this
    have hzl : C = [] := List.length_eq_zero_iff.1 hz
    subst hzl
    go_wp2
    go_ret
    exact ⟨by simp, ext_trans E9.out hb11⟩

/- FRAME -/

set_option maxRecDepth 100000 in
theorem bagLess_lifted (os : Os) (started : os.Started) (H : Type) (enc : TypeId × Value → H) :
    ReturnsInHanded {} Try.checked os 7 .any (Rows.bagLessSpec.pre6 enc Try.prog Try.f7 Rows.bagLessRow.domain false) (Rows.bagLessSpec.post enc Try.prog Try.f7 false true false false) := by
  refine returnsInHanded_of_change (C := Try.checked) Try.own started (by kernel_rfl) Try.func7
    (ChangeSpec.witness6 (enc := enc) (C := Try.checked) false ⟨#[], #[.slice none 0 0, .slice none 0 0], []⟩ 8 (by kernel_rfl) (by kernel_rfl) (by kernel_rfl) (by kernel_rfl)) ?_
  intro W base args ds gs before hval0 hW _ _
  have hval : ∀ (j : Nat) t v, Try.f7.params[j]? = some t → args[j]? = some v → Value.okWide Try.prog W .any base t v := hval0
  have hW' := hW
  obtain ⟨p, q, hA0, hV, rfl, _, _⟩ := hW
  have hA : DataW.TrodAll enc Try.prog W 0 (fun _ => true) true Try.f7.params.toList args.toList ds p := hA0
  rw [Try.params7] at hA hval
  obtain ⟨v0, v1, d0, d1, p0, p1, rfl, rfl, rfl, h0, h1⟩ := trodAll_two hA
  obtain ⟨q0, n0, c0, T0, rfl, le0, m0, tx0, ts0, td0⟩ := open_texts (hval 0 22 v0 rfl rfl) h0
  obtain ⟨q1, n1, c1, T1, rfl, le1, m1, tx1, ts1, td1⟩ := open_texts (hval 1 22 v1 rfl rfl) h1
  clear hA0 hval0
  refine (less_walk q0 n0 c0 (min n0 100) T0 q1 n1 c1 (min n1 100) T1 W le0 le1 m0 m1 (by omega) (by omega) (tx0.le (by omega)) (tx1.le (by omega)) (fun i hi => ts0 i (by omega)) (fun i hi => ts1 i (by omega))).mono fun e W' ⟨he, hb⟩ => ⟨_, he, post_law rfl hW' rfl rfl ?_ hb⟩
  intro t ht
  rw [Try.params7] at ht
  simp only [List.mem_cons, List.not_mem_nil, or_false] at ht
  rcases ht with rfl | rfl <;> exact ⟨by kernel_rfl, of_decide_eq_true (by kernel_rfl)⟩

theorem bagLess_holds : Rows.BagLessSaid :=
  OpenClaim.holds_of_wide 7 Try.f7 rfl rfl rfl rfl rfl rfl rfl ⟨rfl, rfl, rfl, rfl, rfl⟩ rfl rfl rfl rfl rfl (by kernel_rfl) Try.func7 (by kernel_rfl)
    (of_decide_eq_true (by kernel_rfl)) (by unfold Func.isWrapper; rw [if_neg (of_decide_eq_false (by kernel_rfl))]; exact ⟨rfl, rfl⟩)
    (fun os started H enc _ => bagLess_lifted os started H enc)

#print axioms bagLess_holds

end Go.Proofs.Ytinonaiolhgklaa
