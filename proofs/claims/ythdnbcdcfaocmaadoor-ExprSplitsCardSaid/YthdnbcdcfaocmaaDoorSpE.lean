/- ExprSplits: the walk. -/
import Derived.Test.YthdnbcdcfaocmaaDoorSpD
import Derived.Test.YthdnbcdcfaocmaaDoorEvQ
namespace Go.Proofs.YthdnbcdcfaocmaaDoor
open Go.RowKit Go.Deep
set_option maxRecDepth 100000

theorem split_ne : ∀ (k : Nat) (x : Ex), x.deep ≤ k → 0 < x.split.length
  | 0, x, h => absurd (deep_pos x) (by omega)
  | k + 1, .mk op v rel col n s l, h => by
    match l, h with
    | [], _ => rw [Ex.split]; simp
    | [a], _ => rw [Ex.split]; simp
    | [a, b], h =>
      rw [Ex.split]
      rw [Ex.deep, deepL, deepL, deepL] at h
      split
      · have h1 := split_ne k a (by omega)
        rw [List.length_append]
        omega
      · simp
    | a :: b :: c :: r, _ => rw [Ex.split]; simp
theorem splitR_right (x : Ex) : decide (0 < (splitR x).length) = rightE x := by
  unfold splitR
  cases h : rightE x with
  | false => simp
  | true => rw [if_pos rfl]; exact decide_eq_true (split_ne _ x (Nat.le_refl _))
/-- Where the whole has a value. -/
theorem splits_fit {cols : List (List Val)} {ps : List Val} {x : Ex} (h : (evalR cols ps x).2 = 0) : rightE x = true ∧ splitR x = x.split ∧ (∀ p ∈ x.split, (evalR cols ps p).2 = 0 ∧ p.op ≠ 15) ∧ isTrue (evalR cols ps x).1 = x.split.all (fun p => isTrue (evalR cols ps p).1) := by
  have h0 : (rightE x && thereE cols ps x) = true := by
    cases hb : (rightE x && thereE cols ps x) with
    | true => rfl
    | false => unfold evalR at h; rw [hb] at h; simp at h
  have he : evalR cols ps x = evalE cols ps x := by unfold evalR; rw [if_pos h0]
  rw [Bool.and_eq_true] at h0
  rw [he] at h ⊢
  obtain ⟨h1, h2⟩ := split_true _ x (Nat.le_refl _) h0.2 h
  have hp : ∀ p ∈ x.split, evalR cols ps p = evalE cols ps p ∧ p.op ≠ 15 := fun p hp => by
    obtain ⟨d1, d2, d3⟩ := split_parts _ x (Nat.le_refl _) p hp
    obtain ⟨o1, o2, o3⟩ := rightE_parts h0.1
    obtain ⟨d4, d5⟩ := d3 o1
    have hr : rightE p = true := right_iff.2 ⟨d4, by omega, by omega⟩
    exact ⟨by unfold evalR; rw [if_pos (by rw [hr, (h1 p hp).1]; rfl)], d5⟩
  refine ⟨h0.1, by unfold splitR; rw [if_pos h0.1], fun p hpp => ⟨by rw [(hp p hpp).1]; exact (h1 p hpp).2, (hp p hpp).2⟩, ?_⟩
  rw [h2]
  rw [Bool.eq_iff_iff, List.all_eq_true, List.all_eq_true]
  exact ⟨fun h p hpp => by rw [(hp p hpp).1]; exact h p hpp, fun h p hpp => by have := h p hpp; rwa [(hp p hpp).1] at this⟩

set_option maxHeartbeats 8000000 in
theorem exprSplits_walk (x : Ex) (cs : List Value) (w : World) (cv pv : Value) (cols : List (List Val)) (ps : List Val) (hx : ExM w x cs) (hM : VM w cv pv cols ps) (hRV : RV cols ps) (hG : GE w) :
    Calls Tryd.prog 8 #[.agg cs.toArray, cv, pv] w fun e w' => e = .returned (.bool true) ∧ Below w.heap.size w w' := by
  have HX := Lib.hid hx
  have HM := Lib.hid hM
  have HG := Lib.hid hG
  have HRV := Lib.hid hRV
  obtain ⟨op, v, rel, col, n, s, l⟩ := x
  rw [ExM.iff] at hx
  obtain ⟨-, q, c, rfl, -, -⟩ := hx
  obtain ⟨⟨cq, cc, rfl, hcc, hcm, -⟩, pq, pc, rfl, hpc, hpm, -⟩ := hM
  obtain ⟨len, hlen⟩ : ∃ len, len = l.length := ⟨_, rfl⟩
  rw [← hlen] at HX ⊢
  clear hlen hG hRV
  have E0 := EB.new w op v rel col n s q len c 26
  have B0 : Below w.heap.size w (w.alloc (.cells (exCells op v rel col n s q len c).toArray 26)) := ext_alloc (ext_refl _) _
  obtain ⟨W, hW⟩ : ∃ W, W = w.alloc (.cells (exCells op v rel col n s q len c).toArray 26) := ⟨_, rfl⟩
  rw [← hW] at E0 B0
  go_enter Tryd.func8, Tryd.ntmps8
  go_upto_region 1 with fail
  rw [← hW]
  clear hW
  obtain ⟨g, hg⟩ : ∃ g, g = w.heap.size := ⟨_, rfl⟩
  have HB := Lib.hid B0
  have HGW := Lib.hid hg
  rw [← hg] at E0
  rw [← hg]
  clear B0 hg
  have HE := Lib.hid E0
  obtain ⟨lt, c0, c1, c2, c3, c4, c5, c6, c7, c8⟩ := E0
  go_wp2_with fail
  refine (examples_any W (HG.out.on HB.out)).mono ?_
  rintro e M ⟨rfl, hb⟩
  have HBM := Lib.hid (HB.out.trans (hb.mono HB.out.size))
  have HEM := Lib.hid (HE.out.on hb)
  clear hb lt c0 c1 c2 c3 c4 c5 c6 c7 c8 HB HE
  obtain ⟨lt, c0, c1, c2, c3, c4, c5, c6, c7, c8⟩ := HEM.out
  go_wp2_with fail
  refine (deval_any _ _ M _ _ cols ps (ExM.ext HBM.out _ _ HX.out) (HM.out.on HBM.out) HRV.out (HG.out.on HBM.out)).mono ?_
  rintro e X ⟨he, hbX⟩
  obtain ⟨z2, hz2⟩ : ∃ z, z = evalR cols ps (.mk op v rel col n s l) := ⟨_, rfl⟩
  have HZ2 := Lib.hid hz2
  rw [← hz2] at he
  clear hz2
  obtain ⟨⟨rk, rn, rs⟩, re⟩ := z2
  simp only at he
  subst he
  have TX := TV.new_ X rk rn rs
  obtain ⟨X2, hX2⟩ : ∃ X2, X2 = X.alloc (.cells #[.int .i64 rk, .int .i64 rn, .string rs] 23) := ⟨_, rfl⟩
  rw [← hX2] at TX
  have hbX2 : Below M.heap.size M X2 := by rw [hX2]; exact ext_alloc hbX _
  have HBX := Lib.hid (HBM.out.trans (hbX2.mono HBM.out.size))
  have HEX := Lib.hid (HEM.out.on hbX2)
  have HTX := Lib.hid TX
  obtain ⟨gX, hgX⟩ : ∃ g, g = X.heap.size := ⟨_, rfl⟩
  rw [← hgX] at HTX
  have HX2 := Lib.hid hX2
  clear lt c0 c1 c2 c3 c4 c5 c6 c7 c8 TX hX2 hbX2 hbX
  go_upto_region 3 with fail
  rw [← HX2.out, ← hgX]
  clear HX2 hgX
  obtain ⟨lt, c0, c1, c2, c3, c4, c5, c6, c7, c8⟩ := HEX.out
  go_wp2_with fail
  refine (dsplit_any _ _ X2 (ExM.ext HBX.out _ _ HX.out) (HG.out.on HBX.out)).mono ?_
  rintro e D ⟨⟨qs, sc, rfl, hs1, hs2, hs3⟩, hbD⟩
  obtain ⟨sp, hsp⟩ : ∃ sp, sp = splitR (.mk op v rel col n s l) := ⟨_, rfl⟩
  have HSP := Lib.hid hsp
  rw [← hsp] at hs1 hs3 ⊢
  have HS3 := Lib.hid hs3
  have HBD := Lib.hid (HBX.out.trans (hbD.mono HBX.out.size))
  have HED := Lib.hid (HEX.out.on hbD)
  have HTD := Lib.hid (HTX.out.on hbD)
  obtain ⟨ns, hns⟩ : ∃ ns, ns = sp.length := ⟨_, rfl⟩
  rw [← hns] at hs1 ⊢
  have HNS := Lib.hid hns
  have hnm : ns ≤ 9223372036854775807 := Nat.le_trans hs1 hs2
  clear hsp hs1 hs2 hs3 hbD hns HEX HTX lt c0 c1 c2 c3 c4 c5 c6 c7 c8 HBM HEM
  have hrt : decide (0 < ns) = rightE (.mk op v rel col n s l) := by rw [HNS.out, HSP.out]; exact splitR_right _
  by_cases hre : re = 0
  · subst hre
    obtain ⟨k1, k2, k3, k4⟩ := splits_fit (cols := cols) (ps := ps) (x := .mk op v rel col n s l) (by rw [← HZ2.out])
    rw [← HZ2.out] at k4
    rw [← k2, ← HSP.out] at k3 k4
    have HK3 := Lib.hid k3
    have HK4 := Lib.hid k4
    have hn0 : 0 < ns := of_decide_eq_true (hrt.trans k1)
    clear k1 k2 k3 k4 hrt HZ2
    have hne : ((0 : Int) != 0) = false := rfl
    go_wp2_with fail
    go_loopw [11, 12] (fun va vi wr => ∃ (A : Bool) (i : Nat), va = .bool A ∧ vi = .int .i64 i ∧ i ≤ ns ∧ Hid (A = (sp.take i).all (fun p => isTrue (evalR cols ps p).1)) ∧ Hid (Below D.heap.size D wr)) (fun _ vi _ => ns - (intOf vi).toNat)
    case atStart => exact ⟨true, 0, rfl, rfl, by omega, (by show true = List.all (sp.take 0) _; rw [List.take_zero]; rfl), Below.refl _ _⟩
    case round =>
      obtain ⟨A, i, rfl, rfl, hi, hA, hE⟩ := hrel
      obtain ⟨V, hV⟩ : ∃ V, V = wr := ⟨_, rfl⟩
      rw [← hV] at hE
      rw [← hV]
      have HA := Lib.hid hA.out
      have HDV := Lib.hid hE.out
      have HBV := Lib.hid (HBD.out.trans (hE.out.mono HBD.out.size))
      clear hV hA hE
      by_cases hlt : i < ns
      · obtain ⟨y, hy⟩ : ∃ y, sp[i]? = some y := ⟨_, List.getElem?_eq_getElem (by rw [← HNS.out]; exact hlt)⟩
        have HL := Lib.hid (ExL.ext HDV.out _ _ _ HS3.out)
        obtain ⟨ye, yo⟩ := HK3.out y (List.mem_of_getElem? hy)
        have hl_ := ExL.at_ HL.out hy
        obtain ⟨g0, off0, cs0, hq0, hg0, hx0, hcell⟩ := hl_
        subst hq0
        have HX0 := Lib.hid hx0
        have HA2 := Lib.hid (show (sp.take (i + 1)).all (fun p => isTrue (evalR cols ps p).1) = (A && isTrue (evalR cols ps y).1) by rw [take_snoc hy, List.all_append, ← HA.out]; simp)
        clear hy HA HL
        obtain ⟨zv, hzv⟩ : ∃ z, z = evalR cols ps y := ⟨_, rfl⟩
        have HZV := Lib.hid hzv
        rw [← hzv] at ye HA2
        clear hzv
        obtain ⟨⟨yk, yn, ys⟩, yr⟩ := zv
        simp only at ye
        subst ye
        obtain ⟨op1, v1, rel1, col1, n1, s1, l1⟩ := y
        rw [ExM.iff] at hx0
        obtain ⟨-, qq0, cc0, rfl, -, -⟩ := hx0
        have f0 := hcell 0 _ rfl
        have f1 := hcell 1 _ rfl
        have f2 := hcell 2 _ rfl
        have f3 := hcell 3 _ rfl
        have f4 := hcell 4 _ rfl
        have f5 := hcell 5 _ rfl
        have f6 := hcell 6 _ rfl
        have f7 := hcell 7 _ rfl
        have f8 := hcell 8 _ rfl
        simp only [Nat.zero_add, Nat.add_zero] at f0 f1 f2 f3 f4 f5 f6 f7 f8
        have HF0 := Lib.hid f0
        have b15 : (op1 == 15) = false := by rw [beq_eq_false_iff_ne]; exact yo
        clear hcell yo
        go_wp2_with fail
        refine (deval_any _ _ V _ _ cols ps HX0.out (HM.out.on HBV.out) HRV.out (HG.out.on HBV.out)).mono ?_
        rintro e Y ⟨he, hbY⟩
        rw [← HZV.out] at he
        simp only at he
        subst he
        have TY := TV.new_ Y yk yn ys
        obtain ⟨Y2, hY2⟩ : ∃ X2, X2 = Y.alloc (.cells #[.int .i64 yk, .int .i64 yn, .string ys] 23) := ⟨_, rfl⟩
        rw [← hY2] at TY
        have hbY2 : Below V.heap.size V Y2 := by rw [hY2]; exact ext_alloc hbY _
        have f0 := (hbY2.cell (p := ⟨g0, off0 + i * 9, none⟩) hg0).trans HF0.out
        have lg := Nat.lt_of_lt_of_le hg0 hbY2.size
        have HDY := Lib.hid (HDV.out.trans (hbY2.mono HDV.out.size))
        have heq : ∀ w, (binOp .eql 23 (.agg #[.int .i64 yk, .int .i64 yn, .string ys]) (.agg #[.int .i64 2, .int .i64 1, .string ⟨#[]⟩])).run Tryd.prog w = .ok (.bool (isTrue ⟨yk, yn, ys⟩)) w := fun w => (Tryd.eqlVal ⟨yk, yn, ys⟩ ⟨2, 1, ⟨#[]⟩⟩ w).trans (by unfold isTrue; simp)
        obtain ⟨tt, htt⟩ : ∃ tt, tt = isTrue ⟨yk, yn, ys⟩ := ⟨_, rfl⟩
        rw [← htt] at heq HA2
        obtain ⟨gY, hgY⟩ : ∃ g, g = Y.heap.size := ⟨_, rfl⟩
        rw [← hgY] at TY
        have HTY := Lib.hid TY
        have HY2 := Lib.hid hY2
        clear f1 f2 f3 f4 f5 f6 f7 f8 TY hY2 hbY2 hbY hg0 htt
        go_upto_region 11 with fail
        rw [← HY2.out, ← hgY]
        clear HY2 hgY
        obtain ⟨ty, e0, e1, e2, ef⟩ := HTY.out
        cases A with
        | false =>
          go_wp2_with fail
          go_roundw
          case rel => exact ⟨false, i + 1, rfl, by go_num, hlt, (by rw [HA2.out]; rfl), HDY.out⟩
          case measure => simp [intOf] <;> omega
        | true =>
          go_wp2_with fail
          go_roundw
          case rel => exact ⟨tt, i + 1, rfl, by go_num, hlt, (by rw [HA2.out]; rfl), HDY.out⟩
          case measure => simp [intOf] <;> omega
      · obtain rfl : i = ns := by omega
        have hAt : A = isTrue ⟨rk, rn, rs⟩ := by rw [HA.out, HNS.out, List.take_length]; exact HK4.out.symm
        obtain ⟨tx, d0, d1, d2, df⟩ := HTD.out.on HDV.out
        have heq : ∀ w, (binOp .eql 23 (.agg #[.int .i64 rk, .int .i64 rn, .string rs]) (.agg #[.int .i64 2, .int .i64 1, .string ⟨#[]⟩])).run Tryd.prog w = .ok (.bool A) w := fun w => (Tryd.eqlVal ⟨rk, rn, rs⟩ ⟨2, 1, ⟨#[]⟩⟩ w).trans (by rw [hAt]; unfold isTrue; simp)
        clear hAt
        cases A with
        | false =>
          go_wp2_with fail
          refine bodyPost_ret (v := .bool true) (by simp [results, Tryd.results8, go_sem]) rfl ⟨rfl, HBV.out⟩
        | true =>
          go_wp2_with fail
          refine bodyPost_ret (v := .bool true) (by simp [results, Tryd.results8, go_sem]) rfl ⟨rfl, HBV.out⟩
  · have hne : (re != 0) = true := by simpa using hre
    clear hre
    obtain ⟨lt, c0, c1, c2, c3, c4, c5, c6, c7, c8⟩ := HED.out
    by_cases h0 : 0 < ns
    · have hrt : true = rightE (.mk op v rel col n s l) := by rw [← hrt]; exact (decide_eq_true h0).symm
      have HRT := Lib.hid hrt
      clear hrt
      go_wp2_with fail
      refine (dright_any _ _ D (ExM.ext HBD.out _ _ HX.out) (HG.out.on HBD.out)).mono ?_
      rintro e Q ⟨he, hbQ⟩
      rw [← HRT.out] at he
      subst he
      have HBQ := Lib.hid (HBD.out.trans (hbQ.mono HBD.out.size))
      clear hbQ
      go_wp2_with fail
      refine bodyPost_ret (v := .bool true) (by simp [results, Tryd.results8, go_sem]) rfl ⟨rfl, HBQ.out⟩
    · have hrt : false = rightE (.mk op v rel col n s l) := by rw [← hrt]; exact (decide_eq_false h0).symm
      have HRT := Lib.hid hrt
      clear hrt
      go_wp2_with fail
      refine (dright_any _ _ D (ExM.ext HBD.out _ _ HX.out) (HG.out.on HBD.out)).mono ?_
      rintro e Q ⟨he, hbQ⟩
      rw [← HRT.out] at he
      subst he
      have HBQ := Lib.hid (HBD.out.trans (hbQ.mono HBD.out.size))
      clear hbQ
      go_wp2_with fail
      refine bodyPost_ret (v := .bool true) (by simp [results, Tryd.results8, go_sem]) rfl ⟨rfl, HBQ.out⟩

end Go.Proofs.YthdnbcdcfaocmaaDoor
