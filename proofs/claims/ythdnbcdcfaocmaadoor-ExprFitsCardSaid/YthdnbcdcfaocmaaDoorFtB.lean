/- ExprFits: the walk. -/
import Derived.Test.YthdnbcdcfaocmaaDoorFtA
import Derived.Deep.RegionHeld3
namespace Go.Proofs.YthdnbcdcfaocmaaDoor
open Go.RowKit Go.Deep
set_option maxRecDepth 100000

theorem KM_of {w : World} {b b' T : Nat} {cv pv : Value} {L : List (List Int)} {l : List Int} (h1 : Own2 w b T 3 1 iCell cv L) (h2 : OwnK w b' pv l) : KM w cv pv L l := ⟨own_lists h1, own_ints h2⟩

theorem kindR_ok {cols : List (List Int)} {ps : List Int} {x : Ex} {k : Int} (h : kindR cols ps x = (k, 0)) : rightE x = true ∧ knownE cols ps x = true ∧ kindE cols ps x = some k := by
  unfold kindR at h
  split at h
  · rename_i hh
    rw [Bool.and_eq_true] at hh
    refine ⟨hh.1, hh.2, ?_⟩
    cases hk : kindE cols ps x with
    | none => rw [hk] at h; simp at h
    | some m => rw [hk] at h; simp at h; rw [h]
  · simp at h
theorem fits_evalR {cols : List (List Val)} {ps : List Val} (hc : ∀ l ∈ cols, ∀ v ∈ l, v.right = true) (hp : ∀ v ∈ ps, v.right = true) {x : Ex} {k : Int} (h1 : rightE x = true) (h2 : knownE (kindsOf cols) (ps.map Val.k) x = true) (h3 : kindE (kindsOf cols) (ps.map Val.k) x = some k) :
    ((evalR cols ps x).2 = 0 → Fits k (evalR cols ps x).1) ∧ ((evalR cols ps x).2 ≠ 0 → x.safe = false ∧ ((evalR cols ps x).2 = 3 ∨ (evalR cols ps x).2 = 4)) := by
  unfold evalR
  rw [h1, there_known x h2]
  exact fits_eval hc hp x k (rightE_parts h1).1 h3

set_option maxHeartbeats 16000000 in
theorem exprFits_walk (x : Ex) (cs : List Value) (w : World) (cv pv : Value) (cols : List (List Val)) (ps : List Val) (hx : ExM w x cs) (hM : VM w cv pv cols ps) (hRV : RV cols ps) (hR : RowsR cols) (hP : ps.length * 32 ≤ reachBytes) (hG : GE w) :
    Calls Tryd.prog 6 #[.agg cs.toArray, cv, pv] w fun e w' => e = .returned (.bool true) ∧ Below w.heap.size w w' := by
  have HX := Lib.hid hx
  have HM := Lib.hid hM
  have HG := Lib.hid hG
  have HRV := Lib.hid hRV
  have HR := Lib.hid hR
  have HP := Lib.hid hP
  have hnr := hR.1
  unfold reachBytes at hnr
  clear hRV hR hP hG
  obtain ⟨op, v, rel, col, n, s, l⟩ := x
  rw [ExM.iff] at hx
  obtain ⟨-, q, c, rfl, -, -⟩ := hx
  obtain ⟨⟨cq, cc, rfl, hcc, hcm, -⟩, pq, pc, rfl, hpc, hpm, -⟩ := hM
  obtain ⟨len, hlen⟩ : ∃ len, len = l.length := ⟨_, rfl⟩
  rw [← hlen] at HX ⊢
  clear hlen
  obtain ⟨nr, hnrr⟩ : ∃ nr, nr = cols.length := ⟨_, rfl⟩
  have HNR := Lib.hid hnrr
  rw [← hnrr] at hnr HM hcc ⊢
  clear hnrr
  have E0 := EB.new w op v rel col n s q len c 26
  have B0 : Below w.heap.size w (w.alloc (.cells (exCells op v rel col n s q len c).toArray 26)) := ext_alloc (ext_refl _) _
  obtain ⟨W, hW⟩ : ∃ W, W = w.alloc (.cells (exCells op v rel col n s q len c).toArray 26) := ⟨_, rfl⟩
  rw [← hW] at E0 B0
  go_enter Tryd.func6, Tryd.ntmps6
  go_upto_region 1 with fail
  rw [← hW]
  clear hW
  obtain ⟨g, hg⟩ : ∃ g, g = w.heap.size := ⟨_, rfl⟩
  have HB := Lib.hid B0
  have HGW := Lib.hid hg
  rw [← hg] at E0
  rw [← hg]
  clear B0 hg
  have HE := Lib.hid E0
  obtain ⟨lt, c0, c1, c2, c3, c4, c5, c6, c7, c8⟩ := E0
  go_wp2_with fail
  refine (examples_any W (HG.out.on HB.out)).mono ?_
  rintro e W2 ⟨rfl, hb⟩
  have HB2 := Lib.hid (HB.out.trans (hb.mono HB.out.size))
  have E2 := HE.out.on hb
  have HE2 := Lib.hid E2
  clear hb lt c0 c1 c2 c3 c4 c5 c6 c7 c8 HB HE
  obtain ⟨lt, c0, c1, c2, c3, c4, c5, c6, c7, c8⟩ := E2
  go_wp2_with fail
  go_loopw [8] (fun vi wr => ∃ i : Nat, vi = .int .i64 i ∧ i ≤ nr ∧ Hid (∀ r ∈ cols.take i, r.all Val.right = true) ∧ Hid (EB wr g op v rel col n s q len c ∧ Below w.heap.size w wr)) (fun vi _ => nr - (intOf vi).toNat)
  case atStart => exact ⟨0, rfl, by omega, (fun r h => by simp at h), HE2.out, HB2.out⟩
  case round =>
    obtain ⟨i, rfl, hi, hA, hE⟩ := hrel
    obtain ⟨V, hV⟩ : ∃ V, V = wr := ⟨_, rfl⟩
    rw [← hV] at hE
    rw [← hV]
    have HA := Lib.hid hA.out
    have HEV := Lib.hid hE.out.1
    have HBV := Lib.hid hE.out.2
    clear hV hA hE lt c0 c1 c2 c3 c4 c5 c6 c7 c8 HE2 HB2
    have hMV := HM.out.on HBV.out
    have HMV := Lib.hid hMV
    obtain ⟨⟨_, _, hsl, _, _, hPP⟩, _, _, hsp, _, _, hPQ⟩ := hMV
    obtain ⟨rfl, -, rfl⟩ : cq = _ ∧ True ∧ cc = _ := by injection hsl with h1 _ h3; exact ⟨h1, trivial, h3⟩
    obtain ⟨rfl, -, rfl⟩ : pq = _ ∧ True ∧ pc = _ := by injection hsp with h1 _ h3; exact ⟨h1, trivial, h3⟩
    clear hsl hsp
    have HPV := Lib.hid hPP
    have HQV := Lib.hid hPQ
    obtain ⟨lt, c0, c1, c2, c3, c4, c5, c6, c7, c8⟩ := HEV.out
    by_cases hlt : i < nr
    · have hil : i < cols.length := by rw [← HNR.out]; exact hlt
      obtain ⟨g0, off, hq, -, hg, p, pcc, hc0, hc1, hc2, hc3⟩ := ArrA.at_ hPP hil
      subst hq
      obtain ⟨y, hy⟩ : ∃ y, y = cols[i] := ⟨_, rfl⟩
      rw [← hy] at hc0 hc1 hc3
      rw [Nat.mul_one] at hc0
      have HY := Lib.hid (show cols[i]? = some y by rw [hy, List.getElem?_eq_getElem hil])
      have H3 := Lib.hid hc3
      have HYL := Lib.hid (show y.length ≤ 9223372036854775807 by omega)
      clear hPP hPQ hy hc1 hc2 hc3
      go_wp2_with fail
      refine (lawright_any p y pcc V HYL.out H3.out).mono ?_
      rintro e X ⟨he, hbX⟩
      have HBX := Lib.hid (HBV.out.trans (hbX.mono HBV.out.size))
      have HEX := Lib.hid (HEV.out.on hbX)
      clear hbX hc0 lt c0 c1 c2 c3 c4 c5 c6 c7 c8
      cases hr : y.all Val.right with
      | false =>
        rw [hr] at he
        clear hr
        subst he
        go_wp2_with fail
        refine bodyPost_ret (v := .bool true) (by simp [results, Tryd.results6, go_sem]) rfl ⟨rfl, HBX.out⟩
      | true =>
        have HRR := Lib.hid hr
        rw [hr] at he
        clear hr
        subst he
        go_wp2_with fail
        go_roundw
        case rel =>
          refine ⟨i + 1, by go_num, hlt, fun r hr => ?_, HEX.out, HBX.out⟩
          rw [take_snoc HY.out] at hr
          rcases List.mem_append.1 hr with h | h
          · exact HA.out r h
          · rw [List.mem_singleton.1 h]; exact HRR.out
        case measure => simp [intOf] <;> omega
    · obtain rfl : i = nr := by omega
      have HAL := Lib.hid (show ∀ r ∈ cols, r.all Val.right = true by have h2 := HA.out; rw [HNR.out, List.take_length] at h2; exact h2)
      obtain ⟨z, hz⟩ : ∃ z, z = kindR (kindsOf cols) (ps.map Val.k) (.mk op v rel col n s l) := ⟨_, rfl⟩
      have HZ := Lib.hid hz
      obtain ⟨zk, ze⟩ := z
      have HD := Lib.hid (show Below V.heap.size V V.drew from (Below.refl _ _).drew)
      have HPD := Lib.hid ((HMV.out.on HD.out).1)
      clear hPP hPQ hlt hz HA
      go_upto_region 7 with fail
      go_cut [9, 10] (fun v9 v10 wc => v9 = .int .i64 zk ∧ v10 = .int .i64 ze ∧ Hid (Below V.heap.size V wc))
      case first =>
        have rowsD : ∀ W', Below V.heap.size V W' → RowsA W' 0 W'.heap.size cq cols := fun W' hb => by
          obtain ⟨⟨_, _, hsl, _, _, hPP⟩, -⟩ := HMV.out.on hb
          injection hsl with h1 _ _
          rw [h1]
          exact hPP
        have valsD : ∀ W', Below V.heap.size V W' → ValsA W' 0 W'.heap.size pq ps := fun W' hb => by
          obtain ⟨-, _, _, hsl, _, _, hPP⟩ := HMV.out.on hb
          injection hsl with h1 _ _
          rw [h1]
          exact hPP
        have SD := Lib.hid (fun (W' : World) (hb : Below V.heap.size V W') => show W'.cell? ⟨g, 0, none⟩ = some (.int .i64 op) ∧ W'.cell? ⟨g, 1, none⟩ = some (.int .i64 v.k) ∧ W'.cell? ⟨g, 2, none⟩ = some (.int .i64 v.n) ∧ W'.cell? ⟨g, 3, none⟩ = some (.string v.s) ∧ W'.cell? ⟨g, 4, none⟩ = some (.int .i64 rel) ∧ W'.cell? ⟨g, 5, none⟩ = some (.int .i64 col) ∧ W'.cell? ⟨g, 6, none⟩ = some (.int .i64 n) ∧ W'.cell? ⟨g, 7, none⟩ = some (.string s) ∧ W'.cell? ⟨g, 8, none⟩ = some (.slice q len c) from
          ⟨(HEV.out.on hb).c0, (HEV.out.on hb).c1, (HEV.out.on hb).c2, (HEV.out.on hb).c3, (HEV.out.on hb).c4, (HEV.out.on hb).c5, (HEV.out.on hb).c6, (HEV.out.on hb).c7, (HEV.out.on hb).c8⟩)
        have HRD := Lib.hid (fun (W' : World) (hb : Below V.heap.size V W') => show Calls Tryd.prog 30 #[.slice cq i cc] W' (fun e w' => ∃ v, e = .returned v ∧ Own2 w' W'.heap.size 39 3 1 iCell v (kindsOf cols) ∧ Below W'.heap.size W' w') by have h := lawkinds_any cq cols cc W' HR.out (rowsD W' hb); rw [← HNR.out] at h; exact h)
        have HVD := Lib.hid valsD
        clear rowsD valsD
        have SA := Lib.hid (SD.out _ HD.out)
        go_region_held3 (fun W' => W'.cell? ⟨g, 0, none⟩ = some (.int .i64 op) ∧ W'.cell? ⟨g, 1, none⟩ = some (.int .i64 v.k) ∧ W'.cell? ⟨g, 2, none⟩ = some (.int .i64 v.n) ∧ W'.cell? ⟨g, 3, none⟩ = some (.string v.s) ∧ W'.cell? ⟨g, 4, none⟩ = some (.int .i64 rel) ∧ W'.cell? ⟨g, 5, none⟩ = some (.int .i64 col) ∧ W'.cell? ⟨g, 6, none⟩ = some (.int .i64 n) ∧ W'.cell? ⟨g, 7, none⟩ = some (.string s) ∧ W'.cell? ⟨g, 8, none⟩ = some (.slice q len c))
          (first | exact SA.out | exact SB.out | exact SC.out | exact SE.out | exact SF.out | exact SG.out) (first
            | (go_at_call 30; go_must (with_reducible refine (HRD.out _ HD.out).mono ?_; rintro e X1 ⟨vk, rfl, HO, hb⟩; have BX1 := Lib.hid (HD.out.trans (hb.mono HD.out.size)); have SB := Lib.hid (SD.out _ BX1.out); have HOK := Lib.hid HO; clear HO hb))
            | (go_at_call 31; go_must (with_reducible refine (lawrow_any pq ps pc X1 HP.out (HVD.out _ BX1.out)).mono ?_; rintro e X2 ⟨vr, rfl, HO, hb⟩; have BX2 := Lib.hid (BX1.out.trans (hb.mono BX1.out.size)); have SC := Lib.hid (SD.out _ BX2.out); have HOR := Lib.hid HO; have HOK2 := Lib.hid (HOK.out.later hb); clear HO hb))
            | (go_at_call 31; go_must (with_reducible refine (lawrow_any pq ps pc V.drew HP.out (HVD.out _ HD.out)).mono ?_; rintro e Y1 ⟨vr, rfl, HO, hb⟩; have BY1 := Lib.hid (HD.out.trans (hb.mono HD.out.size)); have SE := Lib.hid (SD.out _ BY1.out); have HOR := Lib.hid HO; clear HO hb))
            | (go_at_call 30; go_must (with_reducible refine (HRD.out _ BY1.out).mono ?_; rintro e Y2 ⟨vk, rfl, HO, hb⟩; have BY2 := Lib.hid (BY1.out.trans (hb.mono BY1.out.size)); have SF := Lib.hid (SD.out _ BY2.out); have HOK2 := Lib.hid HO; have HOR2 := Lib.hid (HOR.out.later hb); clear HO hb))
            | (go_at_call 25; go_must (with_reducible refine (dkind_any (.mk op v rel col n s l) _ X2 vk vr (kindsOf cols) (ps.map Val.k) (ExM.ext (HBV.out.trans (BX2.out.mono HBV.out.size)) _ _ HX.out) (KM_of HOK2.out HOR.out) (HG.out.on (HBV.out.trans (BX2.out.mono HBV.out.size)))).mono ?_; rintro e X3 ⟨he, hb⟩; have BX3 := Lib.hid (BX2.out.trans (hb.mono BX2.out.size)); have SG := Lib.hid (SD.out _ BX3.out); rw [← HZ.out] at he; simp only at he; subst he; clear hb))
            | (go_at_call 25; go_must (with_reducible refine (dkind_any (.mk op v rel col n s l) _ Y2 vk vr (kindsOf cols) (ps.map Val.k) (ExM.ext (HBV.out.trans (BY2.out.mono HBV.out.size)) _ _ HX.out) (KM_of HOK2.out HOR2.out) (HG.out.on (HBV.out.trans (BY2.out.mono HBV.out.size)))).mono ?_; rintro e X3 ⟨he, hb⟩; have BX3 := Lib.hid (BY2.out.trans (hb.mono BY2.out.size)); have SG := Lib.hid (SD.out _ BX3.out); rw [← HZ.out] at he; simp only at he; subst he; clear hb)))
        all_goals (go_wp2_with fail; go_meet; exact ⟨rfl, rfl, BX3.out⟩)
      case rest =>
        obtain ⟨rfl, rfl, hb7⟩ := hcut
        obtain ⟨W7, hW7⟩ : ∃ W, W = wc := ⟨_, rfl⟩
        rw [← hW7] at hb7 ⊢
        have HB7 := Lib.hid (HBV.out.trans (hb7.out.mono HBV.out.size))
        have HE7 := Lib.hid (HEV.out.on hb7.out)
        have HM7 := Lib.hid (HMV.out.on hb7.out)
        have H7 := Lib.hid (show ValsA W7 0 W7.heap.size pq ps by
          obtain ⟨-, _, _, hsl, _, _, hPP⟩ := HM7.out
          injection hsl with h1 _ _
          rw [h1]
          exact hPP)
        clear hW7 hb7 lt c0 c1 c2 c3 c4 c5 c6 c7 c8 HD HPD HPV HQV HEV HBV HMV
        have hPL : ps.length ≤ 9223372036854775807 := by omega
        go_wp2_with fail
        refine (lawright_any pq ps pc W7 hPL H7.out).mono ?_
        rintro e X ⟨he, hbX⟩
        have HBX := Lib.hid (HB7.out.trans (hbX.mono HB7.out.size))
        have HEX := Lib.hid (HE7.out.on hbX)
        have HMX := Lib.hid (HM7.out.on hbX)
        clear hbX
        cases hr : ps.all Val.right with
        | false =>
          rw [hr] at he
          clear hr
          subst he
          go_wp2_with fail
          refine bodyPost_ret (v := .bool true) (by simp [results, Tryd.results6, go_sem]) rfl ⟨rfl, HBX.out⟩
        | true =>
          have HPR := Lib.hid hr
          rw [hr] at he
          clear hr
          subst he
          by_cases hze : ze = 0
          · subst hze
            obtain ⟨hk1, hk2, hk3⟩ := kindR_ok HZ.out.symm
            have hFF := fits_evalR (fun l hl v hv => List.all_eq_true.1 (HAL.out l hl) v hv) (fun v hv => List.all_eq_true.1 HPR.out v hv) hk1 hk2 hk3
            obtain ⟨z2, hz2⟩ : ∃ z, z = evalR cols ps (.mk op v rel col n s l) := ⟨_, rfl⟩
            rw [← hz2] at hFF
            have HZ2 := Lib.hid hz2
            have HFF := Lib.hid hFF
            clear hk1 hk2 hk3 hz2 hFF
            obtain ⟨⟨rk, rn, rs⟩, re⟩ := z2
            obtain ⟨lt, c0, c1, c2, c3, c4, c5, c6, c7, c8⟩ := HEX.out
            have hne : ((0 : Int) != 0) = false := rfl
            go_wp2_with fail
            refine (deval_any _ _ X _ _ cols ps (ExM.ext HBX.out _ _ HX.out) HMX.out HRV.out (HG.out.on HBX.out)).mono ?_
            rintro e Y ⟨he, hbY⟩
            rw [← HZ2.out] at he
            simp only at he
            subst he
            have TX := TV.new_ Y rk rn rs
            obtain ⟨Y2, hY2⟩ : ∃ X2, X2 = Y.alloc (.cells #[.int .i64 rk, .int .i64 rn, .string rs] 23) := ⟨_, rfl⟩
            rw [← hY2] at TX
            have hbY2 : Below X.heap.size X Y2 := by rw [hY2]; exact ext_alloc hbY _
            have HBY := Lib.hid (HBX.out.trans (hbY2.mono HBX.out.size))
            have HEY := Lib.hid (HEX.out.on hbY2)
            have HTX := Lib.hid TX
            obtain ⟨gX, hgX⟩ : ∃ g, g = Y.heap.size := ⟨_, rfl⟩
            rw [← hgX] at HTX
            have HY2 := Lib.hid hY2
            clear lt c0 c1 c2 c3 c4 c5 c6 c7 c8 TX hY2 hbY2 hbY hne
            go_upto_region 11 with fail
            rw [← HY2.out, ← hgX]
            clear HY2 hgX
            by_cases hre : re = 0
            · subst hre
              obtain ⟨hfr, hfk⟩ := HFF.out.1 rfl
              have hne : ((0 : Int) != 0) = false := rfl
              obtain ⟨t1, d0, d1, d2, df⟩ := HTX.out
              have HFR := Lib.hid hfr
              clear hfr
              by_cases hkk : rk = zk
              · have bk : (rk == zk) = true := by rw [beq_iff_eq]; exact hkk
                clear hkk hfk
                go_wp2_with fail
                refine (right_any ⟨rk, rn, rs⟩ Y2).mono ?_
                rintro e Q ⟨he, hbQ⟩
                rw [HFR.out] at he
                subst he
                have HBQ := Lib.hid (HBY.out.trans (hbQ.mono HBY.out.size))
                have d0 := (hbQ.cell (p := ⟨gX, 0, none⟩) t1).trans d0
                have t1 := Nat.lt_of_lt_of_le t1 hbQ.size
                clear hbQ
                go_wp2_with fail
                refine bodyPost_ret (v := .bool true) (by simp [results, Tryd.results6, go_sem]) rfl ⟨rfl, HBQ.out⟩
              · have bk : (rk == zk) = false := by rw [beq_eq_false_iff_ne]; exact hkk
                have b0 : (rk == 0) = true := by rw [beq_iff_eq]; exact hfk.resolve_left hkk
                clear hkk hfk
                go_wp2_with fail
                refine (right_any ⟨rk, rn, rs⟩ Y2).mono ?_
                rintro e Q ⟨he, hbQ⟩
                rw [HFR.out] at he
                subst he
                have HBQ := Lib.hid (HBY.out.trans (hbQ.mono HBY.out.size))
                have d0 := (hbQ.cell (p := ⟨gX, 0, none⟩) t1).trans d0
                have t1 := Nat.lt_of_lt_of_le t1 hbQ.size
                clear hbQ
                go_wp2_with fail
                refine bodyPost_ret (v := .bool true) (by simp [results, Tryd.results6, go_sem]) rfl ⟨rfl, HBQ.out⟩
            · have hne : (re != 0) = true := by simpa using hre
              obtain ⟨hsf, h34⟩ := HFF.out.2 hre
              have HSF := Lib.hid (show (rightE (.mk op v rel col n s l) && (Ex.mk op v rel col n s l).safe) = false by rw [hsf, Bool.and_false])
              clear hre hsf
              obtain ⟨lt, c0, c1, c2, c3, c4, c5, c6, c7, c8⟩ := HEY.out
              rcases h34 with rfl | rfl
              · go_wp2_with fail
                refine (dsafe_any _ _ Y2 (ExM.ext HBY.out _ _ HX.out) (HG.out.on HBY.out)).mono ?_
                rintro e Q ⟨he, hbQ⟩
                rw [HSF.out] at he
                subst he
                have HBQ := Lib.hid (HBY.out.trans (hbQ.mono HBY.out.size))
                clear hbQ
                go_wp2_with fail
                refine bodyPost_ret (v := .bool true) (by simp [results, Tryd.results6, go_sem]) rfl ⟨rfl, HBQ.out⟩
              · go_wp2_with fail
                refine (dsafe_any _ _ Y2 (ExM.ext HBY.out _ _ HX.out) (HG.out.on HBY.out)).mono ?_
                rintro e Q ⟨he, hbQ⟩
                rw [HSF.out] at he
                subst he
                have HBQ := Lib.hid (HBY.out.trans (hbQ.mono HBY.out.size))
                clear hbQ
                go_wp2_with fail
                refine bodyPost_ret (v := .bool true) (by simp [results, Tryd.results6, go_sem]) rfl ⟨rfl, HBQ.out⟩
          · have hne : (ze != 0) = true := by simpa using hze
            clear hze
            go_wp2_with fail
            refine bodyPost_ret (v := .bool true) (by simp [results, Tryd.results6, go_sem]) rfl ⟨rfl, HBX.out⟩

end Go.Proofs.YthdnbcdcfaocmaaDoor
