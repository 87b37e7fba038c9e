/- ParseOrder: the law's walk. WRITTEN by wip/make/pborder.py. -/
import Derived.Test.YtgmmbfcjjgehoaaGreatDoorPbE
import Derived.Test.YtgmmbfcjjgehoaaGreatDoorPbP
namespace Go.Proofs.YtgmmbfcjjgehoaaGreatDoor
open Go.RowKit Go.Deep
set_option maxRecDepth 100000

set_option maxHeartbeats 8000000 in
theorem order9_walk (s : ByteArray) (cp : Option Addr) (cs : List Int) (cc : Nat) (dp : Option Addr) (ds : List Bool) (dc : Nat) (w : World) (hG : GV w) (hC : ArrA 0 w.heap.size cp 1 cs (intC w)) (hD : ArrA 0 w.heap.size dp 1 ds (boolC w)) (hI : ∀ x ∈ cs, In64 x) :
    Calls Tryz.prog 7 #[.string s, .slice cp cs.length cc, .slice dp ds.length dc] w fun e w' => e = .returned (.bool true) ∧ Below w.heap.size w w' := by
  have HC := Lib.hid hC
  have HD := Lib.hid hD
  have HI := Lib.hid hI
  obtain ⟨nc, hnc⟩ : ∃ n, n = cs.length := ⟨_, rfl⟩
  obtain ⟨nd, hnd⟩ : ∃ n, n = ds.length := ⟨_, rfl⟩
  rw [← hnc, ← hnd]
  have HNC := Lib.hid hnc
  have HND := Lib.hid hnd
  clear hC hD hI hnc hnd
  go_enter Tryz.func7, Tryz.ntmps7
  go_wp2_with fail
  refine (ex9_any w hG).mono ?_
  rintro e w1 ⟨rfl, hb1⟩
  have Gw1 := hG.on hb1
  have BW := Lib.hid hb1
  clear hb1 hG
  obtain ⟨zs, hzs⟩ : ∃ z, z = s.size := ⟨_, rfl⟩
  have hzs' : s.size = zs := hzs.symm
  by_cases h1 : zs ≤ 900
  rotate_left
  · have i1 : (900 : Int) < (zs : Int) := by omega
    clear hzs
    go_wp2_with fail
    exact bodyPost_ret (v := .bool true) (by simp [results, Tryz.results7, go_sem]) rfl ⟨rfl, BW.out⟩
  have i1 : ¬ (900 : Int) < (zs : Int) := by omega
  have hl1 : s.data.toList.length ≤ 900 := by rw [show s.data.toList.length = s.size from rfl]; omega
  have HL1 := Lib.hid hl1
  have S1 := Lib.hid (show s.size ≤ 9223372036854775807 by omega)
  obtain ⟨r1, hr1⟩ : ∃ r, parseS s.data.toList = r := ⟨_, rfl⟩
  have R1 := Lib.hid hr1
  clear hzs hr1 hl1
  go_upto_region 4 with fail
  clear i1
  go_wp2_with fail
  refine (parse_res s r1 R1.out w1 Gw1 S1.out).mono ?_
  rintro e w1 ⟨⟨q1, n1, c1, o1, m1, d1, hm, rfl⟩, hb⟩
  obtain ⟨A1, hA⟩ : ∃ A, A = w1.alloc (.cells #[.slice q1 n1 c1, .slice o1 m1 d1] 26) := ⟨_, rfl⟩
  have K0 : BkA A1 w1.heap.size [.slice q1 n1 c1, .slice o1 m1 d1] := by rw [hA]; exact BkA.new w1 [.slice q1 n1 c1, .slice o1 m1 d1] 26
  have bA : Below w1.heap.size w1 A1 := by rw [hA]; exact ext_alloc (ext_refl _) _
  have GA1 := (Gw1.on hb).on bA
  have bW := hb.trans (bA.mono hb.size)
  have M1 := Lib.hid (hm.on bA)
  have K1 := Lib.hid K0
  have B1 := Lib.hid (BW.out.trans (bW.mono BW.out.size))
  have HA := Lib.hid hA
  clear hm hb K0 bA bW hA
  go_upto_region 5 with fail
  rw [← HA.out]
  clear HA
  obtain ⟨g1, hg⟩ : ∃ g, g = w1.heap.size := ⟨_, rfl⟩
  rw [← hg] at K1 ⊢
  clear hg
  cases hp1 : r1 with
  | err e1 a1 =>
    have f1 : ((e1 : Int) != 0) = true := by have := parse_ne (R1.out.trans hp1); rw [bne_iff_ne]; omega
    have f2 : ((PQ.err e1 a1).e : Int) = e1 := rfl
    rw [f2]
    go_wp2_with fail
    exact bodyPost_ret (v := .bool true) (by simp [results, Tryz.results7, go_sem]) rfl ⟨rfl, B1.out⟩
  | ok a =>
    have f2 : ((PQ.ok a).e : Int) = 0 := rfl
    rw [f2]
    clear f2
    replace M1 : Hid (QuM A1 a q1 n1 c1 o1 m1 d1) := by rw [hp1] at M1; exact M1
    have lt1 := K1.out.lt
    have u1 := K1.out.c 0 _ rfl
    have v1 := K1.out.c 1 _ rfl
    by_cases hm1 : m1 = 0
    rotate_left
    · have j1 : (0 : Int) < (m1 : Int) := by omega
      clear hp1
      go_wp2_with fail
      exact bodyPost_ret (v := .bool true) (by simp [results, Tryz.results7, go_sem]) rfl ⟨rfl, B1.out⟩
    have hmo := M1.out.o.1
    rw [hm1] at hmo
    subst hm1
    have HO := Lib.hid (show a.order = [] from List.length_eq_zero_iff.1 hmo.symm)
    have HP1 := Lib.hid (R1.out.trans hp1)
    have OKA := Lib.hid (show OkQ a from OkQ.of (R1.out.trans hp1))
    clear hmo hp1
    obtain ⟨U0, hU0⟩ : ∃ U, U = s ++ (⟨#[32, 79, 82, 68, 69, 82, 32, 66, 89, 32]⟩ : ByteArray) := ⟨_, rfl⟩
    have HU0 := Lib.hid hU0
    clear hU0
    go_upto_block 0 with fail
    rw [← HU0.out]
    clear lt1 u1 v1
    go_cut [11, 12] (fun v11 v12 wc => ∃ (i : Nat) (U : ByteArray) (q : Option Addr) (c : Nat), v11 = .string U ∧ v12 = .slice q i c ∧ i ≤ 8 ∧ Hid (i ≤ cs.length ∧ i ≤ ds.length) ∧ Hid (U.data.toList = ordT s.data.toList (ordL cs ds i)) ∧ Hid (OwnF wc A1.heap.size 46 2 RawK.cells (.slice q i c) ((ordL cs ds i).map RawK.of)) ∧ Hid (Below A1.heap.size A1 wc))
    case first =>
      go_wp2_with fail
      go_loopw [11, 12, 13] (fun v11 v12 v13 wr => ∃ (i : Nat) (U : ByteArray) (q : Option Addr) (c : Nat), v11 = .string U ∧ v12 = .slice q i c ∧ v13 = .int .i64 i ∧ i ≤ 8 ∧ Hid (i ≤ cs.length ∧ i ≤ ds.length) ∧ Hid (U.data.toList = ordT s.data.toList (ordL cs ds i)) ∧ Hid (OwnF wr A1.heap.size 46 2 RawK.cells (.slice q i c) ((ordL cs ds i).map RawK.of)) ∧ Hid (Below A1.heap.size A1 wr)) (fun _ _ v13 _ => 10 - (intOf v13).toNat)
      case atStart => exact ⟨0, U0, none, 0, rfl, rfl, by go_num, by omega, ⟨Nat.zero_le _, Nat.zero_le _⟩, (by rw [HU0.out, ba_app]; rfl), OwnF.nil _ _ _, ext_refl _⟩
      case round =>
        obtain ⟨i, U, q, c, rfl, rfl, rfl, hi8, hcd, hU, hO, hB⟩ := hrel
        obtain ⟨W, hW⟩ : ∃ W, W = wr := ⟨_, rfl⟩
        rw [← hW] at hO hB ⊢
        have HCD := Lib.hid hcd.out
        have HU := Lib.hid hU.out
        have HOW := Lib.hid hO.out
        have HBW := Lib.hid hB.out
        clear hW hcd hU hO hB
        by_cases hic : i < nc
        rotate_left
        · have k1 : ¬ (i : Int) < (nc : Int) := by omega
          clear hic
          go_wp2_with fail
          go_meet
          exact ⟨i, U, q, c, rfl, rfl, hi8, HCD.out, HU.out, HOW.out, HBW.out⟩
        have k1 : (i : Int) < (nc : Int) := by omega
        by_cases hid : i < nd
        rotate_left
        · have k2 : ¬ (i : Int) < (nd : Int) := by omega
          clear hid
          go_wp2_with fail
          go_meet
          exact ⟨i, U, q, c, rfl, rfl, hi8, HCD.out, HU.out, HOW.out, HBW.out⟩
        have k2 : (i : Int) < (nd : Int) := by omega
        by_cases h88 : i < 8
        rotate_left
        · have k3 : ¬ (i : Int) < 8 := by omega
          clear h88
          go_wp2_with fail
          go_meet
          exact ⟨i, U, q, c, rfl, rfl, hi8, HCD.out, HU.out, HOW.out, HBW.out⟩
        have k3 : (i : Int) < 8 := by omega
        obtain ⟨z, hz⟩ : ∃ z, cs[i]? = some z := ⟨_, List.getElem?_eq_getElem (by have := HNC.out; omega)⟩
        obtain ⟨d, hd⟩ : ∃ d, ds[i]? = some d := ⟨_, List.getElem?_eq_getElem (by have := HND.out; omega)⟩
        obtain ⟨gc, oc, hcp, -, lgc, hcc⟩ := HC.out i (by have := HNC.out; omega)
        obtain ⟨gd, od, hdp, -, lgd, hdd⟩ := HD.out i (by have := HND.out; omega)
        subst hcp hdp
        have BX := B1.out.trans (HBW.out.mono B1.out.size)
        have x1 : W.cell? ⟨gc, oc + i, none⟩ = some (.int .i64 z) := by
          have h := hcc i z hz
          unfold intC at h
          rw [Nat.mul_one] at h
          exact (BX.cell (p := ⟨gc, _, none⟩) lgc).trans h
        have x2 : W.cell? ⟨gd, od + i, none⟩ = some (.bool d) := by
          have h := hdd i d hd
          unfold boolC at h
          rw [Nat.mul_one] at h
          exact (BX.cell (p := ⟨gd, _, none⟩) lgd).trans h
        have hgW := Nat.lt_of_lt_of_le lgc BX.size
        have hgW2 := Nat.lt_of_lt_of_le lgd BX.size
        obtain ⟨hz1, hz2⟩ := HI.out z (List.mem_of_getElem? hz)
        have HSUC := Lib.hid (ordL_succ hz hd)
        have HX2 := Lib.hid x2
        have HUS := Lib.hid (show U.size ≤ 1000 by
          have h1 := congrArg List.length HU.out
          have h2 := ordT_len s.data.toList (ordL cs ds i)
          rw [ordL_len] at h2
          have h3 := HL1.out
          have h4 : U.data.toList.length = U.size := rfl
          omega)
        clear hcc hdd hz hd BX lgc lgd x2 hzs'
        go_upto_if 63 with fail
        go_cut [14] (fun v wc => ∃ k : Nat, v = .int .i64 k ∧ Hid ((k : Int) = if z < 0 then -(z + 1) else z) ∧ k ≤ 9223372036854775807 ∧ wc = W)
        case first =>
          by_cases hz0 : z < 0
          · go_wp2_with fail
            go_meet
            exact ⟨(-(z + 1)).toNat, by rw [Int.toNat_of_nonneg (by omega)], Lib.hid (by rw [if_pos hz0, Int.toNat_of_nonneg (by omega)]), by omega, rfl⟩
          · go_wp2_with fail
            go_meet
            exact ⟨z.toNat, by rw [Int.toNat_of_nonneg (by omega)], Lib.hid (by rw [if_neg (by omega), Int.toNat_of_nonneg (by omega)]), by omega, rfl⟩
        case rest =>
          obtain ⟨k, rfl, hk, hk9, hwc⟩ := hcut
          obtain rfl : W = wc := hwc.symm
          have HKN := Lib.hid (keyN_of hk.out)
          clear hk x1 hz1 hz2
          obtain ⟨m, hm⟩ : ∃ m, m = k % 100 := ⟨_, rfl⟩
          have hm100 : m < 100 := by omega
          have e1 : (k : Int) % 100 = (m : Int) := by omega
          rw [← hm] at HKN
          clear hm
          obtain ⟨ta, hta⟩ : ∃ t, t = m / 10 := ⟨_, rfl⟩
          obtain ⟨tb, htb⟩ : ∃ t, t = m % 10 := ⟨_, rfl⟩
          have hta9 : ta < 10 := by omega
          have htb9 : tb < 10 := by omega
          have e2 : (m : Int) / 10 = (ta : Int) := by omega
          have e3 : (m : Int) % 10 = (tb : Int) := by omega
          have HM := Lib.hid (And.intro hta htb)
          clear hta htb
          go_upto_if 70 with fail
          rw [e1]
          go_cut [11] (fun v wc => ∃ U1 : ByteArray, v = .string U1 ∧ Hid (U1.data.toList = ordT s.data.toList (ordL cs ds i) ++ if i = 0 then [] else [44, 32]) ∧ wc = W)
          case first =>
            have hus := HUS.out
            by_cases h0 : i = 0
            · have k4 : ¬ (0 : Int) < (i : Int) := by omega
              have HE := Lib.hid (show U.data.toList = ordT s.data.toList (ordL cs ds i) ++ (if i = 0 then [] else [44, 32]) by rw [if_pos h0, List.append_nil]; exact HU.out)
              clear h0
              go_wp2_with fail
              go_meet
              exact ⟨U, rfl, HE, rfl⟩
            · have k4 : (0 : Int) < (i : Int) := by omega
              have hadd : ∀ W, (Op.stringOp .add U ⟨#[44, 32]⟩).run Tryz.prog W = .ok (.string (U ++ ⟨#[44, 32]⟩)) W := fun W => run_string_add_sum W U _ (by show U.size + 2 ≤ _; omega)
              have HE := Lib.hid (show (U ++ (⟨#[44, 32]⟩ : ByteArray)).data.toList = ordT s.data.toList (ordL cs ds i) ++ (if i = 0 then [] else [44, 32]) by rw [if_neg h0, ba_app, HU.out])
              clear h0
              go_wp2_with fail
              go_meet
              exact ⟨_, rfl, HE, rfl⟩
          case rest =>
            obtain ⟨U1, rfl, hU1, hwc⟩ := hcut
            obtain rfl : W = wc := hwc.symm
            have HU1 := Lib.hid hU1.out
            have HU1S := Lib.hid (show U1.size ≤ 1002 by
              have h1 := congrArg List.length hU1.out
              have h2 := ordT_len s.data.toList (ordL cs ds i)
              rw [ordL_len] at h2
              have h3 := HL1.out
              have h4 : U1.data.toList.length = U1.size := rfl
              rw [List.length_append] at h1
              split at h1 <;> simp at h1 <;> omega)
            clear hU1
            obtain ⟨ba, hba⟩ : ∃ b : UInt8, b = UInt8.ofNat (48 + ta) := ⟨_, rfl⟩
            obtain ⟨bb, hbb⟩ : ∃ b : UInt8, b = UInt8.ofNat (48 + tb) := ⟨_, rfl⟩
            have hbz : (48 + (ta : Int)) = (ba.toNat : Int) := by rw [hba, UInt8.toNat_ofNat']; omega
            have hbz2 : (48 + (tb : Int)) = (bb.toNat : Int) := by rw [hbb, UInt8.toNat_ofNat']; omega
            have HST := Lib.hid (ordT_step (s := s.data.toList) HSUC.out HKN.out HU1.out HM.out.1 HM.out.2)
            rw [← hba, ← hbb] at HST
            have hconv : (convert 44 9 (.slice (some ⟨W.heap.size, 0, none⟩) 2 2)).run Tryz.prog (W.alloc (.cells #[.int .u8 (48 + (ta : Int)), .int .u8 (48 + (tb : Int))] 5)) = .ok (.string ⟨#[ba, bb]⟩) (W.alloc (.cells #[.int .u8 (48 + (ta : Int)), .int .u8 (48 + (tb : Int))] 5)) :=
              conv_two (by rw [Lib.cell_of_heap (heap_alloc_new W _)]; simp [hbz]) (by rw [Lib.cell_of_heap (heap_alloc_new W _)]; simp [hbz2])
            have hs1 := HU1S.out
            have hadd : ∀ W, (Op.stringOp .add U1 ⟨#[ba, bb]⟩).run Tryz.prog W = .ok (.string (U1 ++ ⟨#[ba, bb]⟩)) W := fun W => run_string_add_sum W U1 _ (by show U1.size + 2 ≤ _; omega)
            have hsz2 : (U1 ++ (⟨#[ba, bb]⟩ : ByteArray)).size = U1.size + 2 := by rw [ByteArray.size_append]; rfl
            have BY : Below W.heap.size W (W.alloc (.cells #[.int .u8 (48 + (ta : Int)), .int .u8 (48 + (tb : Int))] 5)) := ext_alloc (ext_refl _) _
            have x2 : (W.alloc (.cells #[.int .u8 (48 + (ta : Int)), .int .u8 (48 + (tb : Int))] 5)).cell? ⟨gd, od + i, none⟩ = some (.bool d) := (BY.cell (p := ⟨gd, _, none⟩) hgW2).trans HX2.out
            obtain ⟨U2, hU2⟩ : ∃ U2, U2 = U1 ++ (⟨#[ba, bb]⟩ : ByteArray) := ⟨_, rfl⟩
            rw [← hU2] at hsz2
            simp only [← hU2] at hadd
            have HU2 := Lib.hid (show U2.data.toList = U1.data.toList ++ [ba, bb] by rw [hU2, ba_app])
            have HBY := Lib.hid BY
            clear hba hbb hbz hbz2 hU2 BY
            go_upto_if 88 with fail
            go_cut [11] (fun v wc => ∃ U3 : ByteArray, v = .string U3 ∧ Hid (U3.data.toList = ordT s.data.toList (ordL cs ds (i + 1))) ∧ wc = W.alloc (.cells #[.int .u8 (48 + (ta : Int)), .int .u8 (48 + (tb : Int))] 5))
            case first =>
              cases d with
              | false =>
                go_wp2_with fail
                go_meet
                exact ⟨U2, rfl, Lib.hid (by rw [HST.out, if_neg (by simp), List.append_nil]; exact HU2.out), rfl⟩
              | true =>
                have hadd2 : ∀ W, (Op.stringOp .add U2 ⟨#[32, 100, 101, 115, 99]⟩).run Tryz.prog W = .ok (.string (U2 ++ ⟨#[32, 100, 101, 115, 99]⟩)) W := fun W => run_string_add_sum W U2 _ (by show U2.size + 5 ≤ _; omega)
                go_wp2_with fail
                go_meet
                exact ⟨_, rfl, Lib.hid (by rw [HST.out, if_pos trivial, ba_app, HU2.out]), rfl⟩
            case rest =>
              obtain ⟨U3, rfl, hU3, hwc⟩ := hcut
              have HU3 := Lib.hid hU3.out
              have BY := HBY.out
              rw [← hwc] at x2 BY
              have HOY := Lib.hid (HOW.out.later BY)
              have HBY2 := Lib.hid (HBW.out.trans (BY.mono HBW.out.size))
              clear hU3 hconv hadd hsz2 HBY hs1 BY
              obtain ⟨Y, hY⟩ : ∃ Y, Y = wc := ⟨_, rfl⟩
              rw [← hY] at HOY HBY2 x2 ⊢
              have hgY : gd < Y.heap.size := Nat.lt_of_lt_of_le hgW2 (by rw [hY, hwc]; exact (ext_alloc (ext_refl W) _).size)
              clear hY hwc
              have b1 : Below Y.heap.size Y (Y.alloc (.cells #[.int .i64 ((m : Int) - 1), .bool d] 46)) := ext_alloc (ext_refl _) _
              have OWN := Lib.hid (HOY.out.later b1)
              have HB1 := Lib.hid b1
              have hsub : wrap64 ((m : Int) - 1) = (m : Int) - 1 := by unfold wrap64; omega
              have hw : wrap64 ((i : Int) + 1) = ((i + 1 : Nat) : Int) := by unfold wrap64; omega
              have KR := Lib.hid (show (ordL cs ds i).length + 1 ≤ maxLen ∧ ((ordL cs ds i).length + 1) * 16 ≤ 140737488355328 from ordL_room h88)
              clear b1 e1 e2 e3
              go_wp2_with (at_builtin; go_must (refine wp_append_at rfl _ _ 24 46 rfl Tryz.underlying24 _ 16 Tryz.info_key rfl (by omega) elK_ok.len RawK.one A1.heap.size _ ((ordL cs ds i).map RawK.of) rfl OWN.out _ 1 1 [⟨(m : Int) - 1, d⟩] rfl rfl 0 _ (one_block elK_ok.len 46 #[.int .i64 ((m : Int) - 1), .bool d] ⟨(m : Int) - 1, d⟩ rfl _ rfl) ?kr ?ka ?kb ?_))
              case kr => exact KR.out.1
              case ka => exact KR.out.2
              case kb => exact Nat.le_trans HBY2.out.size (Nat.le_succ _)
              intro v' w' ON bN oN hat
              rw [ordK_step HSUC.out HKN.out] at ON
              obtain ⟨q', c', hv', -⟩ := OwnF.arr elK_ok.len ON
              rw [List.length_map, ordL_len] at hv'
              subst hv'
              have HON := Lib.hid ON
              have HBN := Lib.hid ((HBY2.out.trans (HB1.out.mono HBY2.out.size)).trans bN)
              clear ON bN oN hat x2
              go_upto_region 11 with fail
              have HII := Lib.hid (And.intro hic hid)
              clear hm100 hta9 htb9 hk9 h1 k1 k2 k3 hic hid hgW hgW2 hgY hwc hsub
              go_wp2_with fail
              go_roundw
              case rel => exact ⟨i + 1, U3, q', c', rfl, rfl, rfl, by omega, (by have h1 := HNC.out; have h2 := HND.out; have h3 := HII.out; exact Lib.hid ⟨by omega, by omega⟩), HU3.out, HON.out, HBN.out⟩
              case measure => simp [intOf] <;> omega
    case rest =>
      obtain ⟨i, U, q, c, rfl, rfl, hi8, hcd, hU, hO, hB⟩ := hcut
      obtain ⟨W, hW⟩ : ∃ W, W = wc := ⟨_, rfl⟩
      rw [← hW] at hO hB ⊢
      have HU := Lib.hid hU.out
      have HOW := Lib.hid hO.out
      have HBW := Lib.hid hB.out
      have BB := Lib.hid (B1.out.trans (hB.out.mono B1.out.size))
      have GW := GA1.on hB.out
      clear hW hcd hU hO hB HC HD HI HNC HND
      by_cases hi0 : i = 0
      · subst hi0
        go_wp2_with fail
        exact bodyPost_ret (v := .bool true) (by simp [results, Tryz.results7, go_sem]) rfl ⟨rfl, BB.out⟩
      have j0 : ((i : Int) == 0) = false := by rw [beq_eq_false_iff_ne]; omega
      have S2 := Lib.hid (show U.size ≤ 9223372036854775807 by
        have h1 := congrArg List.length HU.out
        have h2 := ordT_len s.data.toList (ordL cs ds i)
        rw [ordL_len] at h2
        have h3 := HL1.out
        have h4 : U.data.toList.length = U.size := rfl
        omega)
      obtain ⟨L, hL⟩ : ∃ L, L = ordL cs ds i := ⟨_, rfl⟩
      have hLl : L.length = i := by rw [hL, ordL_len]
      obtain ⟨r2, hr2⟩ : ∃ r, parseS U.data.toList = r := ⟨_, rfl⟩
      have PO := Lib.hid (show r2 = .ok ⟨a.sels, L.map keyK⟩ ∨ ∃ p, r2 = .err 5 p by
        rw [← hr2, HU.out, ← hL]
        exact parse_ord HL1.out HP1.out HO.out (fun h => hi0 (by rw [← hLl, h]; rfl)) (by omega) (by rw [hL]; exact ordL_lt))
      rw [← hL] at HOW
      have R2 := Lib.hid hr2
      have HLL := Lib.hid hLl
      have M1W := Lib.hid (M1.out.on HBW.out)
      have K1W := Lib.hid (K1.out.on HBW.out)
      clear hr2 hL hLl M1 K1
      have M1 := M1W
      have MW1 := M1W
      have K1 := K1W
      clear M1W K1W
      go_wp2_with fail
      have K1w := K1
      refine (parse_res U r2 R2.out W GW S2.out).mono ?_
      rintro e w2 ⟨⟨q2, n2, c2, o2, m2, d2, hm, rfl⟩, hb⟩
      obtain ⟨A2, hA⟩ : ∃ A, A = w2.alloc (.cells #[.slice q2 n2 c2, .slice o2 m2 d2] 26) := ⟨_, rfl⟩
      have K0 : BkA A2 w2.heap.size [.slice q2 n2 c2, .slice o2 m2 d2] := by rw [hA]; exact BkA.new w2 [.slice q2 n2 c2, .slice o2 m2 d2] 26
      have bA : Below w2.heap.size w2 A2 := by rw [hA]; exact ext_alloc (ext_refl _) _
      have GA2 := (GW.on hb).on bA
      have bW := hb.trans (bA.mono hb.size)
      have M2 := Lib.hid (hm.on bA)
      have K2 := Lib.hid K0
      replace M1 := Lib.hid (M1.out.on bW)
      replace K1 := Lib.hid (K1.out.on bW)
      have B2 := Lib.hid (BB.out.trans (bW.mono BB.out.size))
      have HA := Lib.hid hA
      have MW2 := Lib.hid hm
      have BWA := Lib.hid bA
      have HBW2 := Lib.hid hb
      have BBW := Lib.hid (BB.out.trans (hb.mono BB.out.size))
      have K1B := Lib.hid (Nat.lt_of_lt_of_le K1w.out.lt hb.size)
      have OW2 := Lib.hid (HOW.out.later (hb.trans (bA.mono hb.size)))
      clear hm hb K0 bA bW hA K1w
      go_upto_region 25 with fail
      rw [← HA.out]
      clear HA
      obtain ⟨g2, hg⟩ : ∃ g, g = w2.heap.size := ⟨_, rfl⟩
      rw [← hg] at K2 ⊢
      have HG2 := Lib.hid hg
      clear hg
      rw [← HG2.out] at K1B
      rcases PO.out with hp | ⟨p, hp⟩
      rotate_left
      · have f2 : ((PQ.err 5 p).e : Int) = 5 := rfl
        rw [hp, f2]
        clear f2 hp
        go_wp2_with fail
        exact bodyPost_ret (v := .bool true) (by simp [results, Tryz.results7, go_sem]) rfl ⟨rfl, B2.out⟩
      · have f2 : ((PQ.ok ⟨a.sels, L.map keyK⟩).e : Int) = 0 := rfl
        rw [hp, f2]
        clear f2
        replace M2 : Hid (QuM A2 ⟨a.sels, L.map keyK⟩ q2 n2 c2 o2 m2 d2) := by rw [hp] at M2; exact M2
        replace MW2 : Hid (QuM w2 ⟨a.sels, L.map keyK⟩ q2 n2 c2 o2 m2 d2) := by rw [hp] at MW2; exact MW2
        have hm2 : m2 = i := by have h1 := M2.out.o.1; have h2 := HLL.out; rw [List.length_map] at h1; omega
        subst hm2
        have lt2 := K2.out.lt
        have v2 := K2.out.c 1 _ rfl
        clear hp j0
        go_wp2_with fail
        clear lt2 v2
        go_loopw [18] (fun va wr => ∃ k : Nat, va = .int .i64 k ∧ k ≤ m2 ∧ Below A2.heap.size A2 wr) (fun va _ => 10 - (intOf va).toNat)
        case atStart => exact ⟨0, by go_num, by omega, ext_refl _⟩
        case round =>
          obtain ⟨k, rfl, hk, hbr⟩ := hrel
          have BS := Lib.hid hbr
          have lt2 := (K2.out.on hbr).lt
          have u2 := (K2.out.on hbr).c 0 _ rfl
          have v2 := (K2.out.on hbr).c 1 _ rfl
          clear hbr
          by_cases hlt : k < m2
          · obtain ⟨y, hy⟩ : ∃ y, L[k]? = some y := ⟨_, List.getElem?_eq_getElem (by have h1 := HLL.out; omega)⟩
            obtain ⟨gb, ob1, hqb, lgb, b0, b1⟩ := (M2.out.on BS.out).o.2.2.ky (show (L.map keyK)[k]? = some (keyK y) by rw [List.getElem?_map, hy]; rfl)
            obtain ⟨qq, cq, hqe, -, -, -, har⟩ := OwnF.arr elK_ok.len (OW2.out.later BS.out)
            obtain ⟨ga, oa1, hqa, -, lga, hcc⟩ := har k (by rw [List.length_map]; have h1 := HLL.out; omega)
            have hcc := hcc k (RawK.of y) (by rw [List.getElem?_map, hy]; rfl)
            have a0 : wr.cell? ⟨ga, oa1 + k * 2, none⟩ = some (.int .i64 ((y.1 : Int) - 1)) := hcc 0 _ rfl
            have a1 : wr.cell? ⟨ga, oa1 + k * 2 + 1, none⟩ = some (.bool y.2) := hcc 1 _ rfl
            simp only [Value.slice.injEq] at hqe
            obtain ⟨rfl, -, rfl⟩ := hqe
            subst hqa hqb
            have hn := Tryz.neqKey ((y.1 : Int) - 1) y.2
            simp only [keyK] at b0 b1
            obtain ⟨yc, hyc⟩ : ∃ u, u = ((y.1 : Int) - 1) := ⟨_, rfl⟩
            obtain ⟨yd, hyd⟩ : ∃ u, u = y.2 := ⟨_, rfl⟩
            rw [← hyc, ← hyd] at hn
            rw [← hyc] at b0 a0
            rw [← hyd] at b1 a1
            have hw1 : wrap64 ((k : Int) + 1) = ((k + 1 : Nat) : Int) := by unfold wrap64; omega
            clear hy hyc hyd har hcc u2
            go_upto_region 32 with fail
            go_region
            go_wp2_with fail
            case roundEnd => exact ⟨⟨k + 1, by rw [Int.natCast_succ], by omega, BS.out.drew⟩, by show 10 - ((k : Int) + 1).toNat < 10 - (k : Int).toNat; omega⟩
          · have hk' : k = m2 := by omega
            subst hk'
            have hfz := (K2.out.on BS.out).fz 1
            obtain ⟨X, hX⟩ : ∃ X, X = wr.setCell ⟨g2, 1, none⟩ (.slice none 0 0) := ⟨_, rfl⟩
            have HX := Lib.hid hX
            have BX := Lib.hid (show Below w2.heap.size w2 X by rw [hX]; exact (BWA.out.trans (BS.out.mono BWA.out.size)).setCell (by rw [← HG2.out]; exact Nat.le_refl _) _)
            have x0 : X.cell? ⟨g2, 0, none⟩ = some (.slice q2 n2 c2) := by rw [hX]; exact (World.cell?_setCell_other _ _ _ _ (by intro h; cases h)).trans u2
            have x1 : X.cell? ⟨g2, 1, none⟩ = some (.slice none 0 0) := by rw [hX]; exact World.cell?_setCell_same _ _ _ v2
            have xl : g2 < X.heap.size := by rw [hX, World.size_setCell]; exact lt2
            have K1X := (K1.out.on BS.out)
            have y0 : X.cell? ⟨g1, 0, none⟩ = some (.slice q1 n1 c1) := by rw [hX]; exact (World.cell?_setCell_other _ _ _ _ (by intro h; cases h)).trans (K1X.c 0 _ rfl)
            have y1 : X.cell? ⟨g1, 1, none⟩ = some (.slice o1 0 d1) := by rw [hX]; exact (World.cell?_setCell_other _ _ _ _ (by intro h; cases h; exact absurd K1B.out (Nat.lt_irrefl _))).trans (K1X.c 1 _ rfl)
            have yl : g1 < X.heap.size := by rw [hX, World.size_setCell]; exact K1X.lt
            clear hX K1X
            go_upto_region 35 with fail
            rw [← HX.out]
            clear hfz u2 v2 lt2
            have hm1X : QuM X a q1 n1 c1 o1 0 d1 := MW1.out.on (HBW2.out.trans (BX.out.mono HBW2.out.size))
            have hm2X : QuM X a q2 n2 c2 none 0 0 := by
              have h := MW2.out.on BX.out
              refine ⟨h.s, ?_⟩
              rw [HO.out]
              exact ⟨rfl, Nat.le_refl _, LsM.nil⟩
            have QA := Lib.hid (queries_any a OKA.out _ _ _ _ _ _ _ _ _ _ _ _ X hm1X hm2X)
            have BXw := Lib.hid (show Below w.heap.size w X from BBW.out.trans (BX.out.mono BBW.out.size))
            clear hm1X hm2X
            go_wp2_with fail
            refine QA.out.mono ?_
            rintro e w6 ⟨rfl, hb⟩
            have B6 := Lib.hid (BXw.out.trans (hb.mono BXw.out.size))
            clear hb QA
            go_wp2_with fail
            exact bodyPost_ret (v := .bool true) (by simp [results, Tryz.results7, go_sem]) rfl ⟨rfl, B6.out⟩

end Go.Proofs.YtgmmbfcjjgehoaaGreatDoor
