/- A part of the proof. -/
import Derived.Test.YtklgoajgchfmeaaDoorKw
import Derived.Test.YtklgoajgchfmeaaDoorKt
set_option linter.unusedVariables false
set_option linter.unusedSimpArgs false
namespace Go.Proofs.YtklgoajgchfmeaaDoor
open Go.RowKit Go.Maps Go.ChangeShapes Go.Deep Go.Shelf
set_option maxRecDepth 100000
theorem rof_no {tabs : List Int} {core : Int} {L : List Ex} {set : Int} (h : partE tabs core L set = false) : bsB (ofE tabs core L set).1 = ⟨#[]⟩ := by
  unfold ofE
  rw [if_neg (by rw [h]; decide)]
set_option maxHeartbeats 16000000 in
theorem rof_any (r : RawK) (tabs : List Int) (L : List Ex) (set : Int) (w : World) (h : BlkIn w r tabs L) (hs : inR set = true) (hci : inR r.core = true) (hLn : L.length ≤ 1048576) (hti : ∀ t ∈ tabs, inR t = true) :
    Calls Tryd.prog 19 #[.agg r.cells.toArray, .int .i64 set] w fun e w' => e = .returned (.tuple #[.string (bsB (ofE tabs r.core L set).1), .bool (partE tabs r.core L set)]) ∧ Below w.heap.size w w' := by
  have H := Lib.hid h
  have HTI := Lib.hid hti
  have K0 := KB.new w r.cells 43
  have B0 : Below w.heap.size w (w.alloc (.cells r.cells.toArray 43)) := ext_alloc (ext_refl _) _
  have HLN := Lib.hid hLn
  obtain ⟨⟨tq, tn, tc⟩, core, ⟨kq, kn, kc⟩, ⟨oq, on, oc⟩, ⟨cq, cn, cc⟩, ⟨aq, an, ac⟩, ⟨uq, un, uc⟩, gr, ⟨eq, en, ec⟩, ⟨iq, in_, ic⟩, di⟩ := r
  have HCN := Lib.hid (show cn = L.length from h.cn)
  have HTN := Lib.hid (show tn = tabs.length from h.tn)
  obtain ⟨W, hW⟩ : ∃ W, W = w.alloc (.cells (RawK.cells ⟨⟨tq, tn, tc⟩, core, ⟨kq, kn, kc⟩, ⟨oq, on, oc⟩, ⟨cq, cn, cc⟩, ⟨aq, an, ac⟩, ⟨uq, un, uc⟩, gr, ⟨eq, en, ec⟩, ⟨iq, in_, ic⟩, di⟩).toArray 43) := ⟨_, rfl⟩
  rw [← hW] at K0 B0
  have HW := Lib.hid hW
  obtain ⟨hs1, hs2⟩ := inR_iff.1 hs
  clear hW hti h hs hLn
  go_enter Tryd.func19, Tryd.ntmps19
  go_upto_region 1 with fail
  change Code.wp _ _ _ _ (w.alloc (.cells (RawK.cells ⟨⟨tq, tn, tc⟩, core, ⟨kq, kn, kc⟩, ⟨oq, on, oc⟩, ⟨cq, cn, cc⟩, ⟨aq, an, ac⟩, ⟨uq, un, uc⟩, gr, ⟨eq, en, ec⟩, ⟨iq, in_, ic⟩, di⟩).toArray 43))
  rw [← HW.out]
  clear HW
  obtain ⟨g, hg⟩ : ∃ g, g = w.heap.size := ⟨_, rfl⟩
  rw [← hg] at K0 ⊢
  have HB := Lib.hid B0
  have HK := Lib.hid K0
  clear hg B0 K0
  have lt := HK.out.lt
  have c0 := HK.out.c 0 _ rfl
  have c1 := HK.out.c 1 _ rfl
  have c4 := HK.out.c 4 _ rfl
  show Code.wp _ _ _ _ _
  by_cases p1 : core < 1
  · skip
    have HO := Lib.hid (show partE tabs core L set = false from by
      cases h : partE tabs core L set
      · rfl
      · unfold partE at h
        simp only [Bool.and_eq_true, decide_eq_true_eq] at h
        have := HTN.out
        omega)
    go_wp2_with fail
    refine bodyPost_ret (v := .tuple #[.string ⟨#[]⟩, .bool false]) (by simp [results, Tryd.results19, go_sem]) rfl ⟨by rw [HO.out, rof_no HO.out], HB.out⟩
  by_cases p2 : 4 < core
  · skip
    have HO := Lib.hid (show partE tabs core L set = false from by
      cases h : partE tabs core L set
      · rfl
      · unfold partE at h
        simp only [Bool.and_eq_true, decide_eq_true_eq] at h
        have := HTN.out
        omega)
    go_wp2_with fail
    refine bodyPost_ret (v := .tuple #[.string ⟨#[]⟩, .bool false]) (by simp [results, Tryd.results19, go_sem]) rfl ⟨by rw [HO.out, rof_no HO.out], HB.out⟩
  by_cases p3 : (tn : Int) < core
  · skip
    have HO := Lib.hid (show partE tabs core L set = false from by
      cases h : partE tabs core L set
      · rfl
      · unfold partE at h
        simp only [Bool.and_eq_true, decide_eq_true_eq] at h
        have := HTN.out
        omega)
    go_wp2_with fail
    refine bodyPost_ret (v := .tuple #[.string ⟨#[]⟩, .bool false]) (by simp [results, Tryd.results19, go_sem]) rfl ⟨by rw [HO.out, rof_no HO.out], HB.out⟩
  by_cases p4 : set < 1
  · skip
    have HO := Lib.hid (show partE tabs core L set = false from by
      cases h : partE tabs core L set
      · rfl
      · unfold partE at h
        simp only [Bool.and_eq_true, decide_eq_true_eq] at h
        have := HTN.out
        omega)
    go_wp2_with fail
    refine bodyPost_ret (v := .tuple #[.string ⟨#[]⟩, .bool false]) (by simp [results, Tryd.results19, go_sem]) rfl ⟨by rw [HO.out, rof_no HO.out], HB.out⟩
  obtain ⟨k, hk⟩ : ∃ k : Nat, core = k := ⟨core.toNat, by omega⟩
  subst hk
  obtain ⟨S, hS⟩ : ∃ S : Nat, set = S := ⟨set.toNat, by omega⟩
  subst hS
  have hk4 : k = 1 ∨ k = 2 ∨ k = 3 ∨ k = 4 := by omega
  obtain ⟨P, hP⟩ : ∃ P : Int, P = 2 ^ k := ⟨_, rfl⟩
  have hPw : wrap64 (2 ^ k) = P := by have := pow_in (rel := (k : Int)) (by omega); rw [hP]; simpa using this
  have HPW := Lib.hid (show ((2 : Int) ^ (k : Int).toNat) = P by rw [hP]; simp)
  clear hP
  by_cases p5 : P ≤ (S : Int)
  · skip
    have HO := Lib.hid (show partE tabs (k : Int) L (S : Int) = false from by
      cases h : partE tabs (k : Int) L (S : Int)
      · rfl
      · unfold partE at h
        simp only [Bool.and_eq_true, decide_eq_true_eq] at h
        have := HTN.out
        rw [HPW.out] at h
        omega)
    go_wp2_with fail
    refine bodyPost_ret (v := .tuple #[.string ⟨#[]⟩, .bool false]) (by simp [results, Tryd.results19, go_sem]) rfl ⟨by rw [HO.out, rof_no HO.out], HB.out⟩
  have HP5 := Lib.hid (show (1 ≤ (k : Int) ∧ (k : Int) ≤ 4 ∧ (k : Int) ≤ tabs.length ∧ 1 ≤ (S : Int) ∧ (S : Int) < 2 ^ (k : Int).toNat) from by rw [HPW.out]; have := HTN.out; omega)
  have HRC := Lib.hid (rconds_any L cq cc W (ExL.ext HB.out _ _ _ H.out.co) H.out.few)
  rw [← HCN.out] at HRC
  go_upto_region 3 with fail
  clear p1 p2 p3 p4 p5 hPw HPW c0 c1
  go_wp2_with fail
  refine HRC.out.mono ?_
  rintro e X ⟨⟨v, rfl, -⟩, hbX⟩
  have HBX := Lib.hid (HB.out.trans (hbX.mono HB.out.size))
  have HKX := Lib.hid (HK.out.on hbX)
  clear hbX HRC HB HK lt c4
  cases hr : L.all rightE with
  | false =>
    have HO := Lib.hid (show partE tabs (k : Int) L (S : Int) = false from by unfold partE; rw [hr]; simp)
    clear hr
    go_wp2_with fail
    refine bodyPost_ret (v := .tuple #[.string ⟨#[]⟩, .bool false]) (by simp [results, Tryd.results19, go_sem]) rfl ⟨by rw [HO.out, rof_no HO.out], HBX.out⟩
  | true =>
    have HO := Lib.hid (show partE tabs (k : Int) L (S : Int) = true from by
      obtain ⟨a, b, c, d, e⟩ := HP5.out
      unfold partE
      rw [hr, decide_eq_true a, decide_eq_true b, decide_eq_true c, decide_eq_true d, decide_eq_true e]
      rfl)
    have HO0 := HO
    clear HO
    have HK4 := Lib.hid (show k ≤ 4 by have := HP5.out; omega)
    have HKT := Lib.hid (show k ≤ tabs.length by have := HP5.out; omega)
    have hS16 : S < 16 := by
      have h1 := HP5.out.2.2.2.2
      rw [show ((2 : Int) ^ (k : Int).toNat) = ((2 ^ k : Nat) : Int) by simp] at h1
      have h2 : 2 ^ k ≤ 2 ^ 4 := Nat.pow_le_pow_right (by decide) HK4.out
      have h3 : (2 : Nat) ^ 4 = 16 := rfl
      omega
    have HS16 := Lib.hid hS16
    clear hr HP5 hS16 hk4 hs1 hs2
    have lt := HKX.out.lt
    have c0 := HKX.out.c 0 _ rfl
    have c1 := HKX.out.c 1 _ rfl
    go_upto_region 8 with fail
    have HIT := Lib.hid (show IntsA w 0 w.heap.size tq tabs from H.out.t)
    have hktn : k ≤ tn := by rw [HTN.out]; exact HKT.out
    have htc : tn ≤ tc := H.out.tc.1
    clear lt c0 c1
    go_wp2_with fail
    go_loopw [8, 9] (fun v8 v9 wr => ∃ (i : Nat) (T : ByteArray), v8 = .string T ∧ v9 = .int .i64 i ∧ i ≤ k ∧ T.size ≤ 100 ∧ Hid (T = bsB (83 :: tabsT S 0 (tabs.take i)) ∧ KB wr g (RawK.cells ⟨⟨tq, tn, tc⟩, (k : Int), ⟨kq, kn, kc⟩, ⟨oq, on, oc⟩, ⟨cq, cn, cc⟩, ⟨aq, an, ac⟩, ⟨uq, un, uc⟩, gr, ⟨eq, en, ec⟩, ⟨iq, in_, ic⟩, di⟩) ∧ Below w.heap.size w wr)) (fun _ v9 _ => k - (intOf v9).toNat)
    case atStart => exact ⟨0, _, rfl, rfl, Nat.zero_le _, by decide, rfl, HKX.out, HBX.out⟩
    case round =>
      obtain ⟨i, T, rfl, rfl, hi, hT, HH⟩ := hrel
      obtain ⟨V, hV⟩ : ∃ V, V = wr := ⟨_, rfl⟩
      rw [← hV] at HH
      rw [← hV]
      clear hV
      have HTT := Lib.hid HH.out.1
      have HKV := Lib.hid HH.out.2.1
      have HBV := Lib.hid HH.out.2.2
      clear HH
      have lt := HKV.out.lt
      have c0 := HKV.out.c 0 _ rfl
      have c1 := HKV.out.c 1 _ rfl
      have hk4 : k ≤ 4 := HK4.out
      by_cases hlt : i < k
      · have hit : i < tabs.length := Nat.lt_of_lt_of_le hlt HKT.out
        have ht : tabs[i]? = some (tabs[i]'hit) := List.getElem?_eq_getElem hit
        obtain ⟨tz, htz⟩ : ∃ z, z = tabs[i]'hit := ⟨_, rfl⟩
        rw [← htz] at ht
        have HTZ := Lib.hid (HTI.out tz (List.mem_of_getElem? ht))
        have HTS := Lib.hid (show tabsT S 0 (tabs.take (i + 1)) = tabsT S 0 (tabs.take i) ++ (if S.testBit i then Lib.itoa tz ++ [32] else []) by
          rw [take_snoc ht, tabsT_snoc, Nat.zero_add, List.length_take, Nat.min_eq_left (Nat.le_of_lt hit)])
        have HTL := Lib.hid (show (tabsT S 0 (tabs.take (i + 1))).length ≤ 88 by
          refine Nat.le_trans (tabsT_len S (tabs.take (i + 1)) 0 fun t h => HTI.out t (List.mem_of_mem_take h)) ?_
          rw [List.length_take]
          have := Nat.min_le_left (i + 1) tabs.length
          omega)
        obtain ⟨gt, ot, hqt, -, hgt, hct⟩ := HIT.out i hit
        have hcV : V.cell? ⟨gt, ot + i * 1, none⟩ = some (.int .i64 tz) := (HBV.out.cell (p := ⟨gt, ot + i * 1, none⟩) hgt).trans (hct i tz ht)
        simp only [Nat.mul_one] at hcV
        subst hqt
        clear hct ht htz hit hgt
        have hsb := shr_bitS (s := S) (j := i) (by have := HS16.out; omega)
        cases hb : S.testBit i with
        | true =>
          rw [hb] at hsb
          rw [hb, if_pos rfl] at HTS
          have HD := Lib.hid (fun (W : World) => digits_any tz (inR_iff.1 HTZ.out).1 (inR_iff.1 HTZ.out).2 W)
          have hdl := dgs_le tz HTZ.out
          have HT2 := Lib.hid (show T ++ dgs tz ++ (⟨#[32]⟩ : ByteArray) = bsB (83 :: tabsT S 0 (tabs.take (i + 1))) by
            rw [HTT.out, HTS.out]
            refine ((congrArg (· ++ (⟨#[32]⟩ : ByteArray)) (bsB_add _ (Lib.itoa tz))).trans (bsB_add _ [32])).trans ?_
            simp)
          have hsz : (T ++ dgs tz ++ (⟨#[32]⟩ : ByteArray)).size ≤ 100 := by
            rw [HT2.out]
            show (83 :: tabsT S 0 (tabs.take (i + 1))).length ≤ 100
            have := HTL.out
            simp
            omega
          obtain ⟨D, hD⟩ : ∃ D, D = dgs tz := ⟨_, rfl⟩
          rw [← hD] at HD HT2 hsz hdl
          have g0 : ¬ 9223372036854775807 < T.size + D.size := by omega
          have g1 : ¬ 9223372036854775807 < T.size + D.size + 1 := by omega
          clear hb hD
          go_wp2_with fail
          refine (HD.out V).mono ?_
          rintro e Y ⟨rfl, hbY⟩
          have HKY := Lib.hid (HKV.out.on hbY)
          have HBY := Lib.hid (HBV.out.trans (hbY.mono HBV.out.size))
          clear hbY hcV lt c0 c1
          go_wp2_with fail
          go_roundw
          case rel => exact ⟨i + 1, _, rfl, by go_num, hlt, hsz, HT2.out, HKY.out, HBY.out⟩
          case measure => simp [intOf] <;> omega
        | false =>
          rw [hb] at hsb
          rw [hb] at HTS
          simp only [Bool.false_eq_true, if_false, List.append_nil] at HTS
          have HT2 := Lib.hid (show T = bsB (83 :: tabsT S 0 (tabs.take (i + 1))) by rw [HTS.out]; exact HTT.out)
          clear hb
          go_wp2_with fail
          go_roundw
          case rel => exact ⟨i + 1, T, rfl, by go_num, hlt, hT, HT2.out, HKV.out, HBV.out⟩
          case measure => simp [intOf] <;> omega
      · obtain rfl : i = k := by omega
        have c4 := HKV.out.c 4 _ rfl
        have HW := Lib.hid (rwithin_any L cq cc (S : Int) V (ExL.ext HBV.out _ _ _ H.out.co) H.out.few (inR_iff.2 ⟨by omega, by have := HS16.out; omega⟩))
        rw [← HCN.out] at HW
        go_upto_region 13 with fail
        clear c0 c1
        go_wp2_with fail
        refine HW.out.mono ?_
        rintro e X ⟨⟨vi, rfl, hI⟩, hbX⟩
        have HKX := Lib.hid (HKV.out.on hbX)
        have HBX := Lib.hid (HBV.out.trans (hbX.mono HBV.out.size))
        have hIA := OwnF.arr nCell_len hI
        obtain ⟨qi, ci, rfl, hic1, hic2, -, hIA⟩ := hIA
        have HIA := Lib.hid hIA
        obtain ⟨ni, hni⟩ : ∃ n, n = (withinE (S : Int) L).length := ⟨_, rfl⟩
        rw [List.length_map, ← hni] at hic1 ⊢
        have hnl : ni ≤ 1048576 := by
          rw [hni]
          refine Nat.le_trans (List.length_filter_le _ _) ?_
          simp
          exact HLN.out
        have HNI := Lib.hid hni
        have HRE := Lib.hid (within_is (S : Int) L)
        have HCC := Lib.hid (show cn ≤ cc from H.out.cc.1)
        clear hI hbX hni HW c4 lt HKV HBV
        go_wp2_with fail
        go_loopw [10, 12] (fun v10 v12 wr => ∃ t : Nat, v12 = .int .i64 t ∧ t ≤ ni ∧ Hid (OwnX wr X.heap.size (fun k => X.heap.size ≤ k) v10 (((withinE (S : Int) L).take t).map fun i => (L.getD i (.mk 0 zeroVal 0 0 0 ⟨#[]⟩ [])).rank S) ∧ Below X.heap.size X wr)) (fun _ v12 _ => ((ni : Int) - intOf v12).toNat)
        case atStart => exact ⟨0, rfl, Nat.zero_le _, OwnX.nil _ _ _, Below.refl _ _⟩
        case round =>
          obtain ⟨t, rfl, hi2, HH⟩ := hrel
          obtain ⟨V, hV⟩ : ∃ V, V = wr := ⟨_, rfl⟩
          rw [← hV] at HH
          rw [← hV]
          clear hV
          have HO := Lib.hid HH.out.1
          have HBV := Lib.hid HH.out.2
          clear HH
          by_cases hlt2 : t < ni
          · obtain ⟨j, hj⟩ : ∃ j, (withinE (S : Int) L)[t]? = some j := ⟨_, List.getElem?_eq_getElem (by rw [← HNI.out]; exact hlt2)⟩
            have hjm := List.mem_of_getElem? hj
            have hjl := within_lt (S : Int) L j hjm
            have hjin : inSet (S : Int) (L.getD j (.mk 0 zeroVal 0 0 0 ⟨#[]⟩ [])) = true := (List.mem_filter.1 hjm).2
            have hy : L[j]? = some (L[j]'hjl) := List.getElem?_eq_getElem hjl
            have hgd : L.getD j (.mk 0 zeroVal 0 0 0 ⟨#[]⟩ []) = L[j]'hjl := by rw [List.getD_eq_getElem?_getD, hy]; rfl
            have HT := Lib.hid (show ((withinE (S : Int) L).take (t + 1)).map (fun i => (L.getD i (.mk 0 zeroVal 0 0 0 ⟨#[]⟩ [])).rank S) = ((withinE (S : Int) L).take t).map (fun i => (L.getD i (.mk 0 zeroVal 0 0 0 ⟨#[]⟩ [])).rank S) ++ [(L[j]'hjl).rank S] by rw [take_snoc hj, List.map_append, List.map_cons, hgd]; rfl)
            have HTL := Lib.hid (show (((withinE (S : Int) L).take t).map fun i => (L.getD i (.mk 0 zeroVal 0 0 0 ⟨#[]⟩ [])).rank S).length = t by rw [List.length_map, List.length_take]; have := HNI.out; omega)
            obtain ⟨M, hM⟩ : ∃ M, M = ((withinE (S : Int) L).take t).map fun i => (L.getD i (.mk 0 zeroVal 0 0 0 ⟨#[]⟩ [])).rank S := ⟨_, rfl⟩
            rw [← hM] at HO HT HTL
            rw [hgd] at hjin
            obtain ⟨y, hye⟩ : ∃ y, y = L[j]'hjl := ⟨_, rfl⟩
            rw [← hye] at hy HT hjin
            obtain ⟨gi, oi, hqi, hgi1, hgi2, hicell⟩ := HIA.out t (by rw [List.length_map, ← HNI.out]; exact hlt2)
            have hci := hicell t (j : Int) (by rw [List.getElem?_map, hj]; rfl) 0 _ rfl
            have hl_ := ExL.at_ (ExL.ext HBX.out _ _ _ H.out.co) hy
            obtain ⟨g0, off0, cs0, hq0, hg0, hx0, hcell⟩ := hl_
            simp only at hq0
            have HX0 := Lib.hid (ExM.ext HBV.out _ _ hx0)
            have HOK := Lib.hid (inSet_ok hjin)
            subst hqi hq0
            clear hM hy hye hicell hjm hgd hj hjin
            obtain ⟨op1, v1, rel1, col1, n1, s1, l1⟩ := y
            rw [ExM.iff] at hx0
            obtain ⟨-, qq0, cc0, rfl, -, -⟩ := hx0
            have hSX : ∀ W' : World, Below X.heap.size X W' → W'.cell? ⟨g, 4, none⟩ = some (.slice (some ⟨g0, off0, none⟩) cn cc) ∧ W'.cell? ⟨gi, oi + t, none⟩ = some (.int .i64 (j : Int)) ∧ W'.cell? ⟨g0, off0 + j * 9, none⟩ = some (.int .i64 op1) ∧ W'.cell? ⟨g0, off0 + j * 9 + 1, none⟩ = some (.int .i64 v1.k) ∧ W'.cell? ⟨g0, off0 + j * 9 + 2, none⟩ = some (.int .i64 v1.n) ∧ W'.cell? ⟨g0, off0 + j * 9 + 3, none⟩ = some (.string v1.s) ∧ W'.cell? ⟨g0, off0 + j * 9 + 4, none⟩ = some (.int .i64 rel1) ∧ W'.cell? ⟨g0, off0 + j * 9 + 5, none⟩ = some (.int .i64 col1) ∧ W'.cell? ⟨g0, off0 + j * 9 + 6, none⟩ = some (.int .i64 n1) ∧ W'.cell? ⟨g0, off0 + j * 9 + 7, none⟩ = some (.string s1) ∧ W'.cell? ⟨g0, off0 + j * 9 + 8, none⟩ = some (.slice qq0 l1.length cc0) := fun W' hb => by
              have e := fun k u hu => (hb.cell (p := ⟨g0, off0 + (0 + j) * 9 + k, none⟩) hg0).trans (hcell k u hu)
              have e0 := e 0 _ rfl
              have e1 := e 1 _ rfl
              have e2 := e 2 _ rfl
              have e3 := e 3 _ rfl
              have e4 := e 4 _ rfl
              have e5 := e 5 _ rfl
              have e6 := e 6 _ rfl
              have e7 := e 7 _ rfl
              have e8 := e 8 _ rfl
              have ei := (hb.cell (p := ⟨gi, oi + t * 1 + 0, none⟩) hgi2).trans hci
              simp only [Nat.zero_add, Nat.add_zero, Nat.mul_one] at e0 e1 e2 e3 e4 e5 e6 e7 e8 ei
              exact ⟨(HKX.out.on hb).c 4 _ rfl, ei, e0, e1, e2, e3, e4, e5, e6, e7, e8⟩
            have HS := Lib.hid hSX
            have hjlen : j < cn := by rw [HCN.out]; exact hjl
            have hccn : cn ≤ cc := HCC.out
            clear hcell hci hSX
            go_upto_region 17 with fail
            have bd : Below V.heap.size V V.drew := ext_drew (ext_refl _)
            have HXD := Lib.hid (ExM.ext bd _ _ HX0.out)
            have HOD := Lib.hid (HO.out.later bd)
            have HBD := Lib.hid (HBV.out.trans (bd.mono HBV.out.size))
            have SA := Lib.hid (HS.out _ HBD.out)
            obtain ⟨Z, hZ⟩ : ∃ Z, Z = (Ex.mk op1 v1 rel1 col1 n1 s1 l1).rank S := ⟨_, rfl⟩
            have HNC := Lib.hid (rrankC_any S (by have := HS16.out; omega) _ (.mk op1 v1 rel1 col1 n1 s1 l1) (Nat.le_refl _) HOK.out V.drew _ HXD.out HOK.out)
            rw [← hZ] at HNC HT
            clear hZ HX0 HO bd hgi2 HXD HOK
            go_region_held3 (fun W' => W'.cell? ⟨g, 4, none⟩ = some (.slice (some ⟨g0, off0, none⟩) cn cc) ∧ W'.cell? ⟨gi, oi + t, none⟩ = some (.int .i64 (j : Int)) ∧ W'.cell? ⟨g0, off0 + j * 9, none⟩ = some (.int .i64 op1) ∧ W'.cell? ⟨g0, off0 + j * 9 + 1, none⟩ = some (.int .i64 v1.k) ∧ W'.cell? ⟨g0, off0 + j * 9 + 2, none⟩ = some (.int .i64 v1.n) ∧ W'.cell? ⟨g0, off0 + j * 9 + 3, none⟩ = some (.string v1.s) ∧ W'.cell? ⟨g0, off0 + j * 9 + 4, none⟩ = some (.int .i64 rel1) ∧ W'.cell? ⟨g0, off0 + j * 9 + 5, none⟩ = some (.int .i64 col1) ∧ W'.cell? ⟨g0, off0 + j * 9 + 6, none⟩ = some (.int .i64 n1) ∧ W'.cell? ⟨g0, off0 + j * 9 + 7, none⟩ = some (.string s1) ∧ W'.cell? ⟨g0, off0 + j * 9 + 8, none⟩ = some (.slice qq0 l1.length cc0)) (first | with_reducible exact SA.out | with_reducible exact SB.out | exact SC.out | exact SD.out)
              (first
                | (go_at_call 35; ((with_reducible refine HNC.out.mono ?_); rintro e Y ⟨⟨cs', rfl, hP⟩, hbY⟩; have HP := Lib.hid hP; have HBY := Lib.hid (HBD.out.trans (hbY.mono HBD.out.size)); have SB := Lib.hid (HS.out _ HBY.out); have HOY := Lib.hid (HOD.out.later hbY); obtain ⟨r', rfl⟩ := hP.raw; clear hP hbY; obtain ⟨opz, ⟨vkz, vnz, vsz⟩, relz, colz, nz, sz, qz, lenz, cz⟩ := r'; have HO2 := Lib.hid (HOY.out.later (ext_alloc (ext_refl Y) (.cells (exCells opz ⟨vkz, vnz, vsz⟩ relz colz nz sz qz lenz cz).toArray 26))); have B2 := Lib.hid (HBY.out.trans ((ext_alloc (ext_refl Y) (.cells (exCells opz ⟨vkz, vnz, vsz⟩ relz colz nz sz qz lenz cz).toArray 26)).mono HBY.out.size)); have SC := Lib.hid (HS.out _ B2.out)))
                | (refine step_append_x rfl _ _ rfl X.heap.size (fun k => X.heap.size ≤ k) u10 M rfl HO2.out t HTL.out.symm ⟨opz, ⟨vkz, vnz, vsz⟩, relz, colz, nz, sz, qz, lenz, cz⟩ Z _ _ 0 (Y.heap.size + 1) rfl (one_block RawE.cells_len 26 _ ⟨opz, ⟨vkz, vnz, vsz⟩, relz, colz, nz, sz, qz, lenz, cz⟩ rfl _ rfl) (renum_k1 HBD.out.size HOD.out HP.out) (by omega) B2.out.size ?_; intro q3 c3 Q hO hbQ hoQ; rw [← HT.out] at hO; have HN := Lib.hid hO; have HBQ := Lib.hid (B2.out.trans hbQ); have SD := Lib.hid (HS.out _ HBQ.out); clear hO hbQ hoQ))
            all_goals
              go_wp2_with fail
              go_roundw
              case rel => exact ⟨t + 1, by go_num, hlt2, HN.out, HBQ.out⟩
              case measure => simp [intOf] <;> omega
          · have HO2 := Lib.hid (show OwnX V X.heap.size (fun k => X.heap.size ≤ k) u10 (rankedE (S : Int) L) by
              have h := HO.out
              rw [show t = (withinE (S : Int) L).length by rw [← HNI.out]; omega, List.take_length] at h
              exact HRE.out ▸ h)
            obtain ⟨qr, cr, rfl, -, -, hLr⟩ := HO2.out.toL
            have hrl : (rankedE (S : Int) L).length ≤ L.length := by unfold rankedE; rw [List.length_map]; exact List.length_filter_le _ _
            have HBVW := Lib.hid (HBX.out.trans (HBV.out.mono HBX.out.size))
            have HDC := Lib.hid (rconds_any (rankedE (S : Int) L) qr cr V hLr (by have := HLN.out; omega))
            rw [ranked_right] at HDC
            have HCE := Lib.hid (show condsE (rankedE (S : Int) L) = sortE ((rankedE (S : Int) L).map Ex.norm) by unfold condsE; rw [if_pos (ranked_right _ _)])
            rw [HCE.out] at HDC
            have HKR := Lib.hid (show ∀ x ∈ sortE ((rankedE (S : Int) L).map Ex.norm), rightE x = true from fun x hx => List.all_eq_true.1 (sorted_right (ranked_right _ _)) x hx)
            have HK1 := Lib.hid (show (sortE ((rankedE (S : Int) L).map Ex.norm)).length ≤ 1048576 from Nat.le_trans (sortE_len _) (by rw [List.length_map]; have := HLN.out; omega))
            have HOE := Lib.hid (show ofE tabs (i : Int) L (S : Int) = (83 :: (tabsT S 0 (tabs.take i) ++ textsT (sortE ((rankedE (S : Int) L).map Ex.norm))), 0) by unfold ofE; rw [if_pos HO0.out]; rfl)
            obtain ⟨rn, hrn⟩ : ∃ n, n = (rankedE (S : Int) L).length := ⟨_, rfl⟩
            rw [← hrn] at HDC ⊢
            obtain ⟨K, hK⟩ : ∃ K, K = sortE ((rankedE (S : Int) L).map Ex.norm) := ⟨_, rfl⟩
            rw [← hK] at HDC HKR HK1 HOE
            clear hrn hK hLr hrl HO HO2 HCE HIA HRE HNI
            go_wp2_with fail
            refine HDC.out.mono ?_
            rintro e X2 ⟨⟨v3, rfl, hO3⟩, hb2⟩
            have HBX2 := Lib.hid (HBVW.out.trans (hb2.mono HBVW.out.size))
            obtain ⟨q3, c3, rfl, hc3, -, hx3⟩ := hO3.toL
            have HX3 := Lib.hid hx3
            obtain ⟨n3, hn3⟩ : ∃ n, n = K.length := ⟨_, rfl⟩
            rw [← hn3] at HK1 hc3 ⊢
            have HN3 := Lib.hid hn3
            have hn36 : n3 ≤ 1048576 := HK1.out
            clear hb2 hO3 hx3 hn3 HDC HBVW HBV HBX
            go_wp2_with fail
            go_loopw [8, 13] (fun v8 v13 wr => ∃ (j : Nat) (U : ByteArray), v8 = .string U ∧ v13 = .int .i64 j ∧ j ≤ n3 ∧ U.size ≤ 100 + 20301 * j ∧ Hid (U = bsB (83 :: (tabsT S 0 (tabs.take i) ++ textsT (K.take j))) ∧ Below X2.heap.size X2 wr)) (fun _ v13 _ => n3 - (intOf v13).toNat)
            case atStart => exact ⟨0, T, rfl, rfl, Nat.zero_le _, hT, by rw [List.take_zero, textsT, List.append_nil]; exact HTT.out, Below.refl _ _⟩
            case round =>
              obtain ⟨j, U, rfl, rfl, hj, hU, HH⟩ := hrel
              obtain ⟨V, hV⟩ : ∃ V, V = wr := ⟨_, rfl⟩
              rw [← hV] at HH
              rw [← hV]
              clear hV
              have HUU := Lib.hid HH.out.1
              have HBU := Lib.hid HH.out.2
              clear HH
              by_cases hlt3 : j < n3
              · obtain ⟨x, hx⟩ : ∃ x, K[j]? = some x := ⟨_, List.getElem?_eq_getElem (by rw [← HN3.out]; exact hlt3)⟩
                have hxr := HKR.out x (List.mem_of_getElem? hx)
                obtain ⟨g0, off0, cs0, hq0, hg0, hx0, hcell⟩ := ExL.at_ (ExL.ext HBU.out _ _ _ HX3.out) hx
                subst hq0
                have HX0 := Lib.hid hx0
                have HPR := Lib.hid (fun (W : World) (cs : List Value) (h : ExM W x cs) => rprint_any _ x (Nat.le_refl _) (rightE_parts hxr).1 (rightE_parts hxr).2.2 cs W h)
                have hps := print_size hx0 hxr
                have HTX := Lib.hid (show textsT (K.take (j + 1)) = textsT (K.take j) ++ (x.print ++ [59]) by rw [take_snoc hx, textsT_snoc, List.append_assoc])
                obtain ⟨P, hP⟩ : ∃ P, P = bsB x.print := ⟨_, rfl⟩
                rw [← hP] at HPR hps
                have HU2 := Lib.hid (show U ++ P ++ (⟨#[59]⟩ : ByteArray) = bsB (83 :: (tabsT S 0 (tabs.take i) ++ textsT (K.take (j + 1)))) by
                  rw [HUU.out, HTX.out, hP]
                  refine ((congrArg (· ++ (⟨#[59]⟩ : ByteArray)) (bsB_add _ x.print)).trans (bsB_add _ [59])).trans ?_
                  simp)
                have hsz : (U ++ P ++ (⟨#[59]⟩ : ByteArray)).size ≤ 100 + 20301 * (j + 1) := by
                  rw [ByteArray.size_append, ByteArray.size_append]
                  have : (⟨#[59]⟩ : ByteArray).size = 1 := rfl
                  omega
                have g0_ : ¬ 9223372036854775807 < U.size + P.size := by omega
                have g1_ : ¬ 9223372036854775807 < U.size + P.size + 1 := by omega
                clear hx hxr hP
                obtain ⟨op1, v1, rel1, col1, n1, s1, l1⟩ := x
                rw [ExM.iff] at hx0
                obtain ⟨-, qq0, cc0, rfl, -, -⟩ := hx0
                have f0 := hcell 0 _ rfl
                have f1 := hcell 1 _ rfl
                have f2 := hcell 2 _ rfl
                have f3 := hcell 3 _ rfl
                have f4 := hcell 4 _ rfl
                have f5 := hcell 5 _ rfl
                have f6 := hcell 6 _ rfl
                have f7 := hcell 7 _ rfl
                have f8 := hcell 8 _ rfl
                simp only [Nat.zero_add, Nat.add_zero] at f0 f1 f2 f3 f4 f5 f6 f7 f8
                clear hcell
                go_wp2_with fail
                refine (HPR.out V _ HX0.out).mono ?_
                rintro e Y ⟨rfl, hbY⟩
                have HBY := Lib.hid (HBU.out.trans (hbY.mono HBU.out.size))
                clear hbY f0 f1 f2 f3 f4 f5 f6 f7 f8 hg0
                go_wp2_with fail
                go_roundw
                case rel => exact ⟨j + 1, _, rfl, by go_num, hlt3, hsz, HU2.out, HBY.out⟩
                case measure => simp [intOf] <;> omega
              · have HU2 := Lib.hid (show U = bsB (ofE tabs (i : Int) L (S : Int)).1 by
                  have h := HUU.out
                  rw [show j = K.length by rw [← HN3.out]; omega, List.take_length] at h
                  rw [HOE.out]
                  exact h)
                have HBQ := Lib.hid (HBX2.out.trans (HBU.out.mono HBX2.out.size))
                clear HUU HBU
                go_wp2_with fail
                refine bodyPost_ret (v := .tuple #[.string U, .bool true]) (by simp [results, Tryd.results19, go_sem]) rfl ⟨by rw [HO0.out, HU2.out], HBQ.out⟩
open Go.RowKit Go.Maps Go.ChangeShapes Go.Deep Go.Shelf
set_option maxRecDepth 100000
structure KX (W : World) (g : Nat) (cs : List Value) : Prop where
  lt : g < W.heap.size
  c : ∀ k u, cs[k]? = some u → W.cell? ⟨g, k, none⟩ = some u
  fz : ∀ o, W.frozen? ⟨g, o, none⟩ = false
theorem ExL.take {w : World} {q : Option Addr} {L : List Ex} (h : ExL w q 0 L) (m : Nat) : ExL w q 0 (L.take m) := ExLP.toL _ _ _ (ExLP.of (P := fun _ => True) fun j x hx => by
  have hx' : L[j]? = some x := by
    rw [List.getElem?_take] at hx
    split at hx
    · exact hx
    · cases hx
  obtain ⟨g, off, cs, h1, h2, h3, h4⟩ := ExL.at_ h hx'
  exact ⟨g, off, cs, h1, h2, trivial, ExMP.on (Nat.le_refl _) (fun _ _ _ => rfl) (fun _ _ _ => trivial) _ _ (ExM.toP _ _ h3), h4⟩)
open Go.RowKit Go.Maps Go.ChangeShapes Go.Deep Go.Shelf
set_option maxRecDepth 100000
theorem numbers_own {w : World} {b b' : Nat} {va vb : Value} {l : List Int} (ha : OwnN w b va l) (hb : OwnN w b' vb l) (hn : l.length ≤ 1353245080340) : Calls Tryd.prog 15 #[va, vb] w fun e w' => e = .returned (.bool true) ∧ Below w.heap.size w w' := by
  obtain ⟨qa, ca, rfl, -, -, -, h1⟩ := OwnF.arr nCell_len ha
  obtain ⟨qb, cb, rfl, -, -, -, h2⟩ := OwnF.arr nCell_len hb
  exact numbers_any l qa qb ca cb w (h1.wide (Nat.zero_le _) (Nat.le_refl _)) (h2.wide (Nat.zero_le _) (Nat.le_refl _)) hn
set_option maxHeartbeats 8000000 in
theorem signTells_any (r : RawK) (tabs : List Int) (L : List Ex) (set : Int) (w : World) (h : BlkIn w r tabs L) (hG : GE w) (hs : inR set = true) (hci : inR r.core = true) (hti : ∀ t ∈ tabs, inR t = true) (hLn : L.length ≤ 1048576) :
    Calls Tryd.prog 4 #[.agg r.cells.toArray, .int .i64 set] w fun e w' => e = .returned (.bool true) ∧ Below w.heap.size w w' := by
  have H := Lib.hid h
  have HG := Lib.hid hG
  have HTI := Lib.hid hti
  have HCI := Lib.hid hci
  have HSI := Lib.hid hs
  have HLN := Lib.hid hLn
  have HK := Lib.hid (KB.new w r.cells 43)
  have HB := Lib.hid (show Below w.heap.size w (w.alloc (.cells r.cells.toArray 43)) from ext_alloc (ext_refl _) _)
  obtain ⟨⟨tq, tn, tc⟩, core, ⟨kq, kn, kc⟩, ⟨oq, on, oc⟩, ⟨cq, cn, cc⟩, ⟨aq, an, ac⟩, ⟨uq, un, uc⟩, gr, ⟨eq, en, ec⟩, ⟨iq, in_, ic⟩, di⟩ := r
  have HCN := Lib.hid (show cn = L.length from h.cn)
  obtain ⟨W, hW⟩ : ∃ W, W = w.alloc (.cells (RawK.cells ⟨⟨tq, tn, tc⟩, core, ⟨kq, kn, kc⟩, ⟨oq, on, oc⟩, ⟨cq, cn, cc⟩, ⟨aq, an, ac⟩, ⟨uq, un, uc⟩, gr, ⟨eq, en, ec⟩, ⟨iq, in_, ic⟩, di⟩).toArray 43) := ⟨_, rfl⟩
  rw [← hW] at HK HB
  have HW := Lib.hid hW
  clear hW hG hs hci hti h hLn
  go_enter Tryd.func4, Tryd.ntmps4
  go_upto_region 1 with fail
  change Code.wp _ _ _ _ (w.alloc (.cells (RawK.cells ⟨⟨tq, tn, tc⟩, core, ⟨kq, kn, kc⟩, ⟨oq, on, oc⟩, ⟨cq, cn, cc⟩, ⟨aq, an, ac⟩, ⟨uq, un, uc⟩, gr, ⟨eq, en, ec⟩, ⟨iq, in_, ic⟩, di⟩).toArray 43))
  rw [← HW.out]
  clear HW
  obtain ⟨g, hg⟩ : ∃ g, g = w.heap.size := ⟨_, rfl⟩
  rw [← hg] at HK ⊢
  clear hg
  go_wp2_with fail
  refine (examples12_any W (HG.out.on HB.out)).mono ?_
  rintro e Y ⟨rfl, hy⟩
  have HY := Lib.hid (HB.out.trans (hy.mono HB.out.size))
  have HKY := Lib.hid (HK.out.on hy)
  clear hy HB HK
  go_upto_region 2 with fail
  have bd : Below Y.heap.size Y Y.drew := ext_drew (ext_refl _)
  have HYD := Lib.hid (HY.out.trans (bd.mono HY.out.size))
  have HKD := Lib.hid (HKY.out.on bd)
  have HD1 := Lib.hid (dwithin_any L cq cc set Y.drew (ExL.ext HYD.out _ _ _ H.out.co) H.out.few (HG.out.on HYD.out) HSI.out)
  rw [← HCN.out] at HD1
  have SA := Lib.hid (show (fun W' => W'.cell? ⟨g, 4, none⟩ = some (.slice cq cn cc)) Y.drew from HKD.out.c 4 _ rfl)
  clear bd HKY HY
  go_region_held3 (fun W' => W'.cell? ⟨g, 4, none⟩ = some (.slice cq cn cc)) (first | with_reducible exact SA.out | with_reducible exact SB.out | exact SC.out | exact SD.out)
    (first
      | (go_at_call 16; ((with_reducible refine HD1.out.mono ?_); rintro e Y1 ⟨⟨va, rfl, hOa⟩, hb1⟩; have HB1 := Lib.hid (HYD.out.trans (hb1.mono HYD.out.size)); have HK1 := Lib.hid (HKD.out.on hb1); have SB := Lib.hid (show (fun W' => W'.cell? ⟨g, 4, none⟩ = some (.slice cq cn cc)) Y1 from HK1.out.c 4 _ rfl); have HOA := Lib.hid hOa; have HD2 := Lib.hid (HCN.out ▸ rwithin_any L cq cc set Y1 (ExL.ext HB1.out _ _ _ H.out.co) H.out.few HSI.out); clear hOa hb1))
      | (go_at_call 17; ((with_reducible refine HD2.out.mono ?_); rintro e Y2 ⟨⟨vb, rfl, hOb⟩, hb2⟩; have HB2 := Lib.hid (HB1.out.trans (hb2.mono HB1.out.size)); have HK2 := Lib.hid (HK1.out.on hb2); have SC := Lib.hid (show (fun W' => W'.cell? ⟨g, 4, none⟩ = some (.slice cq cn cc)) Y2 from HK2.out.c 4 _ rfl); have HNU := Lib.hid (numbers_own (HOA.out.later hb2) hOb (by rw [List.length_map]; exact Nat.le_trans (List.length_filter_le _ _) (by simp; have := HLN.out; omega))); clear hOb hb2))
      | (go_at_call 15; ((with_reducible refine HNU.out.mono ?_); rintro e Y3 ⟨rfl, hb3⟩; have HB3 := Lib.hid (HB2.out.trans (hb3.mono HB2.out.size)); have HK3 := Lib.hid (HK2.out.on hb3); have SD := Lib.hid (show (fun W' => W'.cell? ⟨g, 4, none⟩ = some (.slice cq cn cc)) Y3 from HK3.out.c 4 _ rfl); clear hb3)))
  all_goals
    clear HD1 HD2 HNU HOA SA SB SC SD HYD HKD HB1 HB2 HK1 HK2
    have lt := HK3.out.lt
    have c0 := HK3.out.c 0 _ rfl
    have c1 := HK3.out.c 1 _ rfl
    have c2 := HK3.out.c 2 _ rfl
    have c3 := HK3.out.c 3 _ rfl
    have c4 := HK3.out.c 4 _ rfl
    have c5 := HK3.out.c 5 _ rfl
    have c6 := HK3.out.c 6 _ rfl
    have c7 := HK3.out.c 7 _ rfl
    have c8 := HK3.out.c 8 _ rfl
    have c9 := HK3.out.c 9 _ rfl
    have c10 := HK3.out.c 10 _ rfl
    go_wp2_with fail
    refine (dof_any ⟨⟨tq, tn, tc⟩, core, ⟨kq, kn, kc⟩, ⟨oq, on, oc⟩, ⟨cq, cn, cc⟩, ⟨aq, an, ac⟩, ⟨uq, un, uc⟩, gr, ⟨eq, en, ec⟩, ⟨iq, in_, ic⟩, di⟩ tabs L set Y3 (H.out.on HB3.out) (HG.out.on HB3.out) HSI.out HCI.out HLN.out HTI.out).mono ?_
    rintro e Z ⟨rfl, hz⟩
    have HBZ := Lib.hid (HB3.out.trans (hz.mono HB3.out.size))
    have HKZ := Lib.hid (HK3.out.on hz)
    have HRO := Lib.hid (rof_any ⟨⟨tq, tn, tc⟩, core, ⟨kq, kn, kc⟩, ⟨oq, on, oc⟩, ⟨cq, cn, cc⟩, ⟨aq, an, ac⟩, ⟨uq, un, uc⟩, gr, ⟨eq, en, ec⟩, ⟨iq, in_, ic⟩, di⟩ tabs L set Z (H.out.on HBZ.out) HSI.out HCI.out HLN.out HTI.out)
    rw [show RawK.core ⟨⟨tq, tn, tc⟩, core, ⟨kq, kn, kc⟩, ⟨oq, on, oc⟩, ⟨cq, cn, cc⟩, ⟨aq, an, ac⟩, ⟨uq, un, uc⟩, gr, ⟨eq, en, ec⟩, ⟨iq, in_, ic⟩, di⟩ = core from rfl] at HRO ⊢
    have hE2 : (ofE tabs core L set).2 = if partE tabs core L set = true then 0 else 1 := by unfold ofE; split <;> rfl
    obtain ⟨S1, hS1⟩ : ∃ s, s = bsB (ofE tabs core L set).1 := ⟨_, rfl⟩
    obtain ⟨E1, hE1⟩ : ∃ s, s = (ofE tabs core L set).2 := ⟨_, rfl⟩
    obtain ⟨BP, hBP⟩ : ∃ s, s = partE tabs core L set := ⟨_, rfl⟩
    rw [← hS1, ← hBP] at HRO
    rw [← hS1, ← hE1]
    rw [← hE1, ← hBP] at hE2
    have HE2 := Lib.hid hE2
    clear hS1 hE1 hBP hE2 hz HB3 HK3 lt c0 c1 c2 c3 c4 c5 c6 c7 c8 c9 c10
    have lt := HKZ.out.lt
    have c0 := HKZ.out.c 0 _ rfl
    have c1 := HKZ.out.c 1 _ rfl
    have c2 := HKZ.out.c 2 _ rfl
    have c3 := HKZ.out.c 3 _ rfl
    have c4 := HKZ.out.c 4 _ rfl
    have c5 := HKZ.out.c 5 _ rfl
    have c6 := HKZ.out.c 6 _ rfl
    have c7 := HKZ.out.c 7 _ rfl
    have c8 := HKZ.out.c 8 _ rfl
    have c9 := HKZ.out.c 9 _ rfl
    have c10 := HKZ.out.c 10 _ rfl
    go_wp2_with fail
    refine HRO.out.mono ?_
    rintro e Q ⟨rfl, hq⟩
    have HBQ := Lib.hid (HBZ.out.trans (hq.mono HBZ.out.size))
    have he := HE2.out
    clear hq HBZ HKZ HRO HE2 lt c0 c1 c2 c3 c4 c5 c6 c7 c8 c9 c10
    cases BP
    all_goals
      simp only [if_true, Bool.false_eq_true, if_false] at he
      subst he
      go_wp2_with fail
      refine bodyPost_ret (v := .bool true) (by simp [results, Tryd.results4, go_sem]) rfl ⟨rfl, HBQ.out⟩
end Go.Proofs.YtklgoajgchfmeaaDoor
