/- Any two bags are the same, the one within the other, both together, the one without the other, as the chapter says: whatever the texts. Conditions: none. -/
import Derived.Test.YtinonaiolhgklaaBgRF
import Derived.Test.YtinonaiolhgklaaBgO
namespace Go.Proofs.Ytinonaiolhgklaa
open Go.ChangeShapes Go.WideShapes Go.ChangeAt Go.RowKit Go.Joins Go.Maps
open Go.Proofs (encStr)

theorem lst_bound {T : Nat → ByteArray} {k : Nat} (hs : ∀ i, i < k → (T i).size ≤ 9223372036854775807) : ∀ s ∈ lst T k, s.length ≤ 9223372036854775807 := by
  intro s h
  obtain ⟨i, hi, rfl⟩ := List.mem_map.1 h
  rw [Array.length_toList]
  exact hs i (List.mem_range.1 hi)
theorem mem_of_pos {A : List Txt} {s : Txt} (h : 0 < A.count s) : s ∈ A := List.count_pos_iff.1 h
theorem pos_of_mem {A : List Txt} {s : Txt} (h : s ∈ A) : 0 < A.count s := List.count_pos_iff.2 h
theorem same_congr {A B X Y : List Txt} (h1 : ∀ s, A.count s = X.count s) (h2 : ∀ s, B.count s = Y.count s) : same X Y = same A B := by
  rw [Bool.eq_iff_iff, same_iff, same_iff]
  exact ⟨fun h s => by rw [h1 s, h2 s, h s], fun h s => by rw [← h1 s, ← h2 s, h s]⟩
theorem within_congr {A B X Y : List Txt} (h1 : ∀ s, A.count s = X.count s) (h2 : ∀ s, B.count s = Y.count s) : within X Y = within A B := by
  rw [Bool.eq_iff_iff, within_iff, within_iff]
  exact ⟨fun h s => by rw [h1 s, h2 s]; exact h s, fun h s => by rw [← h1 s, ← h2 s]; exact h s⟩

set_option maxRecDepth 100000 in
set_option maxHeartbeats 4000000 in
theorem two_walk (q1 : Option Addr) (n1 c1 k1 : Nat) (T1 : Nat → ByteArray) (q2 : Option Addr) (n2 c2 k2 : Nat) (T2 : Nat → ByteArray) (w : World) (hc1 : n1 ≤ c1) (hc2 : n2 ≤ c2) (hn1 : n1 ≤ 9223372036854775807) (hn2 : n2 ≤ 9223372036854775807) (hm1 : min (n1 : Int) 200 = (k1 : Int)) (hm2 : min (n2 : Int) 200 = (k2 : Int))
    (hT1 : TxtP w q1 k1 T1) (hT2 : TxtP w q2 k2 T2) (hs1 : ∀ i, i < k1 → (T1 i).size ≤ 9223372036854775807) (hs2 : ∀ i, i < k2 → (T2 i).size ≤ 9223372036854775807) :
    Calls Try.prog 4 #[.slice q1 n1 c1, .slice q2 n2 c2] w fun e w' => e = .returned (.bool true) ∧ Below w.heap.size w w' := by
  have hk1 : k1 ≤ n1 := by omega
  have hk2 : k2 ≤ n2 := by omega
  have hl1 : k1 ≤ 200 := by omega
  have hl2 : k2 ≤ 200 := by omega
  go_enter Try.func4, Try.ntmps4
  go_wp2_with fail
  refine (ex3_any _).mono ?_
  rintro e w1 ⟨rfl, hb1⟩
  have hT11 := hT1.ext hb1
  have hT21 := hT2.ext hb1
  have E1 := Lib.hid hb1
  clear hT1 hT2 hb1
  go_wp2_with fail
  refine (of_any q1 k1 c1 T1 w1 hT11 (by omega) hs1).mono ?_
  rintro e w2 ⟨pa, ma, rfl, hA, hb2, hpa, hma⟩
  obtain ⟨A, hAe⟩ : ∃ A, A = (lst T1 k1).reverse := ⟨_, rfl⟩
  rw [← hAe] at hA
  have HAL := Lib.hid (show A.length = k1 by rw [hAe, List.length_reverse, lst_length])
  have HAS := Lib.hid (show ∀ s ∈ A, s.length ≤ 9223372036854775807 from fun s h => lst_bound hs1 s (by rw [hAe] at h; simpa using h))
  have HAE := Lib.hid hAe
  have hT12 := hT11.ext hb2
  have hT22 := hT21.ext hb2
  have E2 := Lib.hid (ext_trans E1.out hb2)
  clear hT21 hT11 hb2 hAe
  go_wp2_with fail
  refine (of_any q2 k2 c2 T2 w2 hT22 (by omega) hs2).mono ?_
  rintro e w3 ⟨pb, mb, rfl, hB, hb3, hpb, hmb⟩
  obtain ⟨B, hBe⟩ : ∃ B, B = (lst T2 k2).reverse := ⟨_, rfl⟩
  rw [← hBe] at hB
  have HBL := Lib.hid (show B.length = k2 by rw [hBe, List.length_reverse, lst_length])
  have HBS := Lib.hid (show ∀ s ∈ B, s.length ≤ 9223372036854775807 from fun s h => lst_bound hs2 s (by rw [hBe] at h; simpa using h))
  have HBE := Lib.hid hBe
  have hA3 := hA.ext hb3
  have hT13 := hT12.ext hb3
  have hT23 := hT22.ext hb3
  have E3 := Lib.hid (ext_trans E2.out hb3)
  clear hT22 hT12 hb3 hA hs1 hs2 hBe
  go_wp2_with fail
  refine (rof_any q1 k1 c1 T1 w3 hT13 (by omega)).mono ?_
  rintro e w4 ⟨px, X, rfl, hX, hpX, hb4⟩
  have HX := Lib.hid (show ∀ s, A.count s = X.count s from fun s => by rw [HAE.out, List.count_reverse, kind_perm hpX s])
  have HXL := Lib.hid (show X.length = k1 by rw [hpX.length_eq, lst_length])
  have hA4 := hA3.ext hb4
  have hB4 := hB.ext hb4
  have hT24 := hT23.ext hb4
  have hlx := hX.lt
  have E4 := Lib.hid (ext_trans E3.out hb4)
  clear hA3 hB hT13 hT23 hb4 hpX HAE
  go_wp2_with fail
  refine (rof_any q2 k2 c2 T2 w4 hT24 (by omega)).mono ?_
  rintro e w5 ⟨py, Y, rfl, hY, hpY, hb5⟩
  have HY := Lib.hid (show ∀ s, B.count s = Y.count s from fun s => by rw [HBE.out, List.count_reverse, kind_perm hpY s])
  have HYL := Lib.hid (show Y.length = k2 by rw [hpY.length_eq, lst_length])
  have hly := hY.low
  have hxy : py ≠ px := by omega
  have hA5 := hA4.ext hb5
  have hB5 := hB4.ext hb5
  have hX5 := hX.ext hb5
  have E5 := Lib.hid (ext_trans E4.out hb5)
  clear hA4 hB4 hX hT24 hb5 hpY HBE
  go_wp2_with fail
  refine (both_any pa ma _ pb mb _ A B w5 hA5 hB5 (by have := HAL.out; have := HBL.out; omega)).mono ?_
  rintro e w6 ⟨pc, mc, C, rfl, hC, hcC, hb6, hpc, hmc⟩
  have hA6 := hA5.ext hb6
  have hB6 := hB5.ext hb6
  have hX6 := hX5.ext hb6
  have hY6 := hY.ext hb6
  have E6 := Lib.hid (ext_trans E5.out hb6)
  have HCC := Lib.hid hcC
  clear hA5 hB5 hX5 hY hb6 hcC
  go_wp2_with fail
  refine (rboth_any _ _ px py X Y w6 hX6 hY6 (by have := HXL.out; have := HYL.out; omega)).mono ?_
  rintro e w7 ⟨pz, Z, rfl, hZ, hcZ, hb7⟩
  have hA7 := hA6.ext hb7
  have hB7 := hB6.ext hb7
  have hX7 := hX6.ext hb7
  have hY7 := hY6.ext hb7
  have hC7 := hC.ext hb7
  have E7 := Lib.hid (ext_trans E6.out hb7)
  have HCZ := Lib.hid (show ∀ s, C.count s = Z.count s from fun s => by rw [HCC.out s, hcZ s, HX.out s, HY.out s])
  have HZL := Lib.hid (show Z.length ≤ 400 by
    have h := length_of_counts (A := Z) (B := X ++ Y) fun s => by rw [hcZ s, List.count_append]; omega
    rw [List.length_append, HXL.out, HYL.out] at h
    omega)
  clear hA6 hB6 hX6 hY6 hC hb7 hcZ
  go_wp2_with fail
  refine (lsame_any pc mc _ _ pz C Z w7 hC7 hZ HCZ.out (by have := HZL.out; omega) (by have := HAL.out; have := HBL.out; omega) (fun s h => by
    have h1 := pos_of_mem h
    rw [HCC.out s] at h1
    by_cases e : 0 < A.count s
    · exact HAS.out s (mem_of_pos e)
    · exact HBS.out s (mem_of_pos (by omega)))).mono ?_
  rintro e w8 ⟨rfl, hb8⟩
  have hA8 := hA7.ext hb8
  have hB8 := hB7.ext hb8
  have hX8 := hX7.ext hb8
  have hY8 := hY7.ext hb8
  have E8 := Lib.hid (ext_trans E7.out hb8)
  clear hA7 hB7 hX7 hY7 hC7 hZ hb8 HCZ HCC HZL
  go_wp2_with fail
  refine (less_any pa ma _ pb mb _ A B w8 hA8 hB8 (by have := HAL.out; omega) (by have := HBL.out; omega)).mono ?_
  rintro e w9 ⟨pd, md, D, rfl, hD, hcD, hb9, hpd, hmd⟩
  have hA9 := hA8.ext hb9
  have hB9 := hB8.ext hb9
  have hX9 := hX8.ext hb9
  have hY9 := hY8.ext hb9
  have E9 := Lib.hid (ext_trans E8.out hb9)
  have HCD := Lib.hid hcD
  clear hA8 hB8 hX8 hY8 hb9 hcD
  go_wp2_with fail
  refine (rless_any _ _ px py X Y w9 hX9 hY9 (by have := HXL.out; have := HYL.out; omega)).mono ?_
  rintro e w10 ⟨pv, V, rfl, hV, hcV, hb10⟩
  have hA10 := hA9.ext hb10
  have hB10 := hB9.ext hb10
  have hX10 := hX9.ext hb10
  have hY10 := hY9.ext hb10
  have hD10 := hD.ext hb10
  have E10 := Lib.hid (ext_trans E9.out hb10)
  have HDV := Lib.hid (show ∀ s, D.count s = V.count s from fun s => by rw [HCD.out s, hcV s, HX.out s, HY.out s])
  have HVL := Lib.hid (show V.length ≤ 200 by
    have h := length_of_counts (A := V) (B := X) fun s => by rw [hcV s]; omega
    rw [HXL.out] at h
    omega)
  clear hA9 hB9 hX9 hY9 hD hb10 hcV
  go_wp2_with fail
  refine (lsame_any pd md _ _ pv D V w10 hD10 hV HDV.out (by have := HVL.out; omega) (by have := HAL.out; omega) (fun s h => HAS.out s (mem_of_pos (by have h1 := pos_of_mem h; rw [HCD.out s] at h1; omega)))).mono ?_
  rintro e w11 ⟨rfl, hb11⟩
  have hA11 := hA10.ext hb11
  have hB11 := hB10.ext hb11
  have hX11 := hX10.ext hb11
  have hY11 := hY10.ext hb11
  have E11 := Lib.hid (ext_trans E10.out hb11)
  clear hA10 hB10 hX10 hY10 hD10 hV hb11 HDV HCD HVL
  go_wp2_with fail
  refine (lsame_any pa ma _ _ px A X w11 hA11 hX11 HX.out (by have := HXL.out; omega) (by omega) HAS.out).mono ?_
  rintro e w12 ⟨rfl, hb12⟩
  have hA12 := hA11.ext hb12
  have hB12 := hB11.ext hb12
  have hX12 := hX11.ext hb12
  have hY12 := hY11.ext hb12
  have E12 := Lib.hid (ext_trans E11.out hb12)
  clear hA11 hB11 hX11 hY11 hb12
  go_wp2_with fail
  refine (lsame_any pb mb _ _ py B Y w12 hB12 hY12 HY.out (by have := HYL.out; omega) (by omega) HBS.out).mono ?_
  rintro e w13 ⟨rfl, hb13⟩
  have hA13 := hA12.ext hb13
  have hB13 := hB12.ext hb13
  have hX13 := hX12.ext hb13
  have hY13 := hY12.ext hb13
  have E13 := Lib.hid (ext_trans E12.out hb13)
  clear hA12 hB12 hX12 hY12 hb13
  go_wp2_with fail
  refine (same_any pa ma _ pb mb _ A B w13 hA13 hB13).mono ?_
  rintro e w14 ⟨rfl, hb14⟩
  have hA14 := hA13.ext hb14
  have hB14 := hB13.ext hb14
  have hX14 := hX13.ext hb14
  have hY14 := hY13.ext hb14
  have E14 := Lib.hid (ext_trans E13.out hb14)
  clear hA13 hB13 hX13 hY13 hb14
  go_wp2_with fail
  refine (rsame_any _ _ px py X Y w14 hX14 hY14 hxy (by have := HXL.out; omega) (by have := HYL.out; omega)).mono ?_
  rintro e w15 ⟨rfl, hb15⟩
  rw [same_congr HX.out HY.out]
  have hA15 := hA14.ext hb15
  have hB15 := hB14.ext hb15
  have hX15 := hX14.ext hb15
  have hY15 := hY14.ext hb15
  have E15 := Lib.hid (ext_trans E14.out hb15)
  clear hA14 hB14 hX14 hY14 hb15
  go_wp2_with fail
  refine (within_any pa ma _ pb mb _ A B w15 hA15 hB15).mono ?_
  rintro e w16 ⟨rfl, hb16⟩
  have hA16 := hA15.ext hb16
  have hB16 := hB15.ext hb16
  have hX16 := hX15.ext hb16
  have hY16 := hY15.ext hb16
  have E16 := Lib.hid (ext_trans E15.out hb16)
  clear hA15 hB15 hX15 hY15 hb16
  go_wp2_with fail
  refine (rwithin_any _ _ px py X Y w16 hX16 hY16 hxy (by have := HXL.out; omega) (by have := HYL.out; omega)).mono ?_
  rintro e w17 ⟨rfl, hb17⟩
  rw [within_congr HX.out HY.out]
  have hA17 := hA16.ext hb17
  have hB17 := hB16.ext hb17
  have hX17 := hX16.ext hb17
  have hY17 := hY16.ext hb17
  have E17 := Lib.hid (ext_trans E16.out hb17)
  clear hA16 hB16 hX16 hY16 hb17
  go_wp2_with fail
  refine (within_any pb mb _ pa ma _ B A w17 hB17 hA17).mono ?_
  rintro e w18 ⟨rfl, hb18⟩
  have hX18 := hX17.ext hb18
  have hY18 := hY17.ext hb18
  have E18 := Lib.hid (ext_trans E17.out hb18)
  clear hA17 hB17 hX17 hY17 hb18
  go_wp2_with fail
  refine (rwithin_any _ _ py px Y X w18 hY18 hX18 (Ne.symm hxy) (by have := HYL.out; omega) (by have := HXL.out; omega)).mono ?_
  rintro e w19 ⟨rfl, hb19⟩
  rw [within_congr HY.out HX.out]
  go_wp2
  go_ret
  exact ⟨rfl, ext_trans E18.out hb19⟩

/- FRAME -/

set_option maxRecDepth 100000 in
theorem bagTwo_lifted (os : Os) (started : os.Started) (H : Type) (enc : TypeId × Value → H) :
    ReturnsInHanded {} Try.checked os 4 .any (Rows.bagTwoSpec.pre6 enc Try.prog Try.f4 Rows.bagTwoRow.domain false) (Rows.bagTwoSpec.post enc Try.prog Try.f4 false true false false) := by
  refine returnsInHanded_of_change (C := Try.checked) Try.own started (by kernel_rfl) Try.func4
    (ChangeSpec.witness6 (enc := enc) (C := Try.checked) false ⟨#[], #[.slice none 0 0, .slice none 0 0], []⟩ 8 (by kernel_rfl) (by kernel_rfl) (by kernel_rfl) (by kernel_rfl)) ?_
  intro W base args ds gs before hval0 hW _ _
  have hval : ∀ (j : Nat) t v, Try.f4.params[j]? = some t → args[j]? = some v → Value.okWide Try.prog W .any base t v := hval0
  have hW' := hW
  obtain ⟨p, q, hA0, hV, rfl, _, _⟩ := hW
  have hA : DataW.TrodAll enc Try.prog W 0 (fun _ => true) true Try.f4.params.toList args.toList ds p := hA0
  rw [Try.params4] at hA hval
  obtain ⟨v0, v1, d0, d1, p0, p1, rfl, rfl, rfl, h0, h1⟩ := trodAll_two hA
  obtain ⟨q0, n0, c0, T0, rfl, le0, m0, tx0, ts0, td0⟩ := open_texts (hval 0 22 v0 rfl rfl) h0
  obtain ⟨q1, n1, c1, T1, rfl, le1, m1, tx1, ts1, td1⟩ := open_texts (hval 1 22 v1 rfl rfl) h1
  clear hA0 hval0
  refine (two_walk q0 n0 c0 (min n0 200) T0 q1 n1 c1 (min n1 200) T1 W le0 le1 m0 m1 (by omega) (by omega) (tx0.le (by omega)) (tx1.le (by omega)) (fun i hi => ts0 i (by omega)) (fun i hi => ts1 i (by omega))).mono fun e W' ⟨he, hb⟩ => ⟨_, he, post_law rfl hW' rfl rfl ?_ hb⟩
  intro t ht
  rw [Try.params4] at ht
  simp only [List.mem_cons, List.not_mem_nil, or_false] at ht
  rcases ht with rfl | rfl <;> exact ⟨by kernel_rfl, of_decide_eq_true (by kernel_rfl)⟩

theorem bagTwo_holds : Rows.BagTwoSaid :=
  OpenClaim.holds_of_wide 4 Try.f4 rfl rfl rfl rfl rfl rfl rfl ⟨rfl, rfl, rfl, rfl, rfl⟩ rfl rfl rfl rfl rfl (by kernel_rfl) Try.func4 (by kernel_rfl)
    (of_decide_eq_true (by kernel_rfl)) (by unfold Func.isWrapper; rw [if_neg (of_decide_eq_false (by kernel_rfl))]; exact ⟨rfl, rfl⟩)
    (fun os started H enc _ => bagTwo_lifted os started H enc)

#print axioms bagTwo_holds

end Go.Proofs.Ytinonaiolhgklaa
