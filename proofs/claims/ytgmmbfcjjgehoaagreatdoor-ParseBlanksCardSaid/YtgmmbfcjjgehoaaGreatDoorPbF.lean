/- ParseBlanks: the law's walk. WRITTEN by wip/make/pblaws.py. -/
import Derived.Test.YtgmmbfcjjgehoaaGreatDoorPbE
namespace Go.Proofs.YtgmmbfcjjgehoaaGreatDoor
open Go.RowKit Go.Deep
set_option maxRecDepth 100000

set_option maxHeartbeats 8000000 in
theorem blanks9_walk (s t : ByteArray) (w : World) (hG : GV w) : Calls Tryz.prog 5 #[.string s, .string t] w fun e w' => e = .returned (.bool true) ∧ Below w.heap.size w w' := by
  go_enter Tryz.func5, Tryz.ntmps5
  go_wp2_with fail
  refine (ex9_any w hG).mono ?_
  rintro e w1 ⟨rfl, hb1⟩
  have Gw1 := hG.on hb1
  have BW := Lib.hid hb1
  clear hb1 hG
  obtain ⟨zs, hzs⟩ : ∃ z, z = s.size := ⟨_, rfl⟩
  obtain ⟨zt, hzt⟩ : ∃ z, z = t.size := ⟨_, rfl⟩
  have hzs' : s.size = zs := hzs.symm
  have hzt' : t.size = zt := hzt.symm
  by_cases h1 : zs ≤ 900
  rotate_left
  · have i1 : (900 : Int) < (zs : Int) := by omega
    clear hzs hzt
    go_wp2_with fail
    exact bodyPost_ret (v := .bool true) (by simp [results, Tryz.results5, go_sem]) rfl ⟨rfl, BW.out⟩
  by_cases h2 : zt ≤ 900
  rotate_left
  · have i1 : ¬ (900 : Int) < (zs : Int) := by omega
    have i2 : (900 : Int) < (zt : Int) := by omega
    clear hzs hzt
    go_wp2_with fail
    exact bodyPost_ret (v := .bool true) (by simp [results, Tryz.results5, go_sem]) rfl ⟨rfl, BW.out⟩
  have i1 : ¬ (900 : Int) < (zs : Int) := by omega
  have i2 : ¬ (900 : Int) < (zt : Int) := by omega
  have hl1 : s.data.toList.length ≤ 900 := by rw [show s.data.toList.length = s.size from rfl]; omega
  have S1 := Lib.hid (show s.size ≤ 9223372036854775807 by omega)
  have S2 := Lib.hid (show (s ++ ⟨#[32, 32, 10]⟩).size ≤ 9223372036854775807 by rw [ByteArray.size_append]; show s.size + 3 ≤ _; omega)
  have S3 := Lib.hid (show (⟨#[83, 69, 76, 69, 67, 84, 32, 97, 32, 70, 82, 79, 77, 32, 116, 32, 87, 72, 69, 82, 69, 32]⟩ ++ t : ByteArray).size ≤ 9223372036854775807 by rw [ByteArray.size_append]; show 22 + t.size ≤ _; omega)
  have S4 := Lib.hid (show (⟨#[83, 69, 76, 69, 67, 84, 32, 97, 32, 70, 82, 79, 77, 32, 116, 32, 87, 72, 69, 82, 69, 32, 40]⟩ ++ t ++ ⟨#[41]⟩ : ByteArray).size ≤ 9223372036854775807 by rw [ByteArray.size_append, ByteArray.size_append]; show 23 + t.size + 1 ≤ _; omega)
  obtain ⟨r1, hr1⟩ : ∃ r, parseS s.data.toList = r := ⟨_, rfl⟩
  obtain ⟨r2, hr2⟩ : ∃ r, parseS (s.data.toList ++ [32, 32, 10]) = r := ⟨_, rfl⟩
  obtain ⟨r3, hr3⟩ : ∃ r, parseS (headS ++ 32 :: t.data.toList) = r := ⟨_, rfl⟩
  obtain ⟨r4, hr4⟩ : ∃ r, parseS (headS ++ 32 :: 40 :: (t.data.toList ++ [41])) = r := ⟨_, rfl⟩
  have R1 := Lib.hid hr1
  have R2 := Lib.hid (show parseS (s ++ ⟨#[32, 32, 10]⟩).data.toList = r2 by rw [ba_app]; exact hr2)
  have R3 := Lib.hid (show parseS (⟨#[83, 69, 76, 69, 67, 84, 32, 97, 32, 70, 82, 79, 77, 32, 116, 32, 87, 72, 69, 82, 69, 32]⟩ ++ t : ByteArray).data.toList = r3 by rw [ba_app]; exact hr3)
  have R4 := Lib.hid (show parseS (⟨#[83, 69, 76, 69, 67, 84, 32, 97, 32, 70, 82, 79, 77, 32, 116, 32, 87, 72, 69, 82, 69, 32, 40]⟩ ++ t ++ ⟨#[41]⟩ : ByteArray).data.toList = r4 by rw [ba_app, ba_app]; exact hr4)
  obtain ⟨z2, hz2⟩ : ∃ z, z = s ++ (⟨#[32, 32, 10]⟩ : ByteArray) := ⟨_, rfl⟩
  obtain ⟨z3, hz3⟩ : ∃ z, z = (⟨#[83, 69, 76, 69, 67, 84, 32, 97, 32, 70, 82, 79, 77, 32, 116, 32, 87, 72, 69, 82, 69, 32]⟩ : ByteArray) ++ t := ⟨_, rfl⟩
  obtain ⟨z4, hz4⟩ : ∃ z, z = (⟨#[83, 69, 76, 69, 67, 84, 32, 97, 32, 70, 82, 79, 77, 32, 116, 32, 87, 72, 69, 82, 69, 32, 40]⟩ : ByteArray) ++ t ++ (⟨#[41]⟩ : ByteArray) := ⟨_, rfl⟩
  rw [← hz2] at S2 R2
  rw [← hz3] at S3 R3
  rw [← hz4] at S4 R4
  have Z2 := Lib.hid hz2
  have Z3 := Lib.hid hz3
  have Z4 := Lib.hid hz4
  have HR3 := Lib.hid hr3
  have HR4 := Lib.hid hr4
  have hal : alikeQ r1 r2 := by rw [← hr1, ← hr2]; exact parse_blanks hl1
  have OK1 := Lib.hid (show OkQ r1.q by rw [← hr1]; exact OkQ.all _)
  have OK3 := Lib.hid (show OkQ r3.q by rw [← hr3]; exact OkQ.all _)
  have N1 := Lib.hid (show r1.e = 0 → ∃ q, r1 = .ok q from fun h => by
    cases hp : r1 with
    | ok q => exact ⟨q, rfl⟩
    | err er a => rw [hp] at h hr1; exact absurd h (parse_ne hr1))
  obtain ⟨hq, he, -⟩ := alike_q hal
  have HQ := Lib.hid hq
  have HE := Lib.hid he
  have HAL := Lib.hid hal
  clear hzs hzt hz2 hz3 hz4 hr1 hr2 hr3 hr4 hal hl1 h1 h2 hq he
  go_upto_region 4 with fail
  clear i1 i2
  go_wp2_with fail
  refine (parse_res s r1 R1.out w1 Gw1 S1.out).mono ?_
  rintro e w1 ⟨⟨q1, n1, c1, o1, m1, d1, hm, rfl⟩, hb⟩
  obtain ⟨A1, hA⟩ : ∃ A, A = w1.alloc (.cells #[.slice q1 n1 c1, .slice o1 m1 d1] 26) := ⟨_, rfl⟩
  have K0 : BkA A1 w1.heap.size [.slice q1 n1 c1, .slice o1 m1 d1] := by rw [hA]; exact BkA.new w1 [.slice q1 n1 c1, .slice o1 m1 d1] 26
  have bA : Below w1.heap.size w1 A1 := by rw [hA]; exact ext_alloc (ext_refl _) _
  have GA1 := (Gw1.on hb).on bA
  have bW := hb.trans (bA.mono hb.size)
  have M1 := Lib.hid (hm.on bA)
  have K1 := Lib.hid K0
  have B1 := Lib.hid (BW.out.trans (bW.mono BW.out.size))
  have HA := Lib.hid hA
  clear hm hb K0 bA bW hA
  go_upto_region 5 with fail
  rw [← HA.out]
  clear HA
  obtain ⟨g1, hg⟩ : ∃ g, g = w1.heap.size := ⟨_, rfl⟩
  rw [← hg] at K1 ⊢
  clear hg
  go_wp2_with fail
  rw [← Z2.out]
  refine (parse_res z2 r2 R2.out A1 GA1 S2.out).mono ?_
  rintro e w2 ⟨⟨q2, n2, c2, o2, m2, d2, hm, rfl⟩, hb⟩
  obtain ⟨A2, hA⟩ : ∃ A, A = w2.alloc (.cells #[.slice q2 n2 c2, .slice o2 m2 d2] 26) := ⟨_, rfl⟩
  have K0 : BkA A2 w2.heap.size [.slice q2 n2 c2, .slice o2 m2 d2] := by rw [hA]; exact BkA.new w2 [.slice q2 n2 c2, .slice o2 m2 d2] 26
  have bA : Below w2.heap.size w2 A2 := by rw [hA]; exact ext_alloc (ext_refl _) _
  have GA2 := (GA1.on hb).on bA
  have bW := hb.trans (bA.mono hb.size)
  have M2 := Lib.hid (hm.on bA)
  have K2 := Lib.hid K0
  replace M1 := Lib.hid (M1.out.on bW)
  replace K1 := Lib.hid (K1.out.on bW)
  have B2 := Lib.hid (B1.out.trans (bW.mono B1.out.size))
  have HA := Lib.hid hA
  clear hm hb K0 bA bW hA
  go_upto_region 6 with fail
  rw [← HA.out]
  clear HA
  obtain ⟨g2, hg⟩ : ∃ g, g = w2.heap.size := ⟨_, rfl⟩
  rw [← hg] at K2 ⊢
  clear hg
  rw [← HE.out]
  rw [← HQ.out] at M2
  obtain ⟨x1, hx1⟩ : ∃ x, x = r1.e := ⟨_, rfl⟩
  obtain ⟨y1, hy1⟩ : ∃ x, x = r1.at_ := ⟨_, rfl⟩
  obtain ⟨y2, hy2⟩ : ∃ x, x = r2.at_ := ⟨_, rfl⟩
  rw [← hx1, ← hy1, ← hy2]
  have lt1 := K1.out.lt
  have u1 := K1.out.c 0 _ rfl
  have v1 := K1.out.c 1 _ rfl
  have lt2 := K2.out.lt
  have u2 := K2.out.c 0 _ rfl
  have v2 := K2.out.c 1 _ rfl
  have QA := Lib.hid (queries_any r1.q OK1.out q1 n1 c1 o1 m1 d1 q2 n2 c2 o2 m2 d2 A2 M1.out M2.out)
  have hyy : x1 = 0 → y1 = 0 ∧ y2 = 0 := fun h => by
    obtain ⟨q, hq⟩ := N1.out (hx1.symm.trans h)
    have h2 := HAL.out
    rw [hq] at hy1 h2
    cases hp : r2 with
    | ok q' => rw [hp] at hy2; exact ⟨hy1, hy2⟩
    | err er a => rw [hp] at h2; exact h2.elim
  clear hx1 hy1 hy2
  go_wp2_with fail
  refine QA.out.mono ?_
  rintro e w5 ⟨rfl, hb⟩
  have Gw5 := GA2.on hb
  have B5 := Lib.hid (B2.out.trans (hb.mono B2.out.size))
  have hne : ((x1 : Int) != x1) = false := by simp
  clear hb QA lt1 u1 v1 lt2 u2 v2 M1 M2 K1 K2 GA1 GA2 Gw1
  by_cases hx : x1 = 0
  · obtain ⟨rfl, rfl⟩ := hyy hx
    subst hx
    clear hyy
    go_upto_region 9 with fail
    clear hne
    go_wp2_with fail
    rw [← Z3.out]
    refine (parse_res z3 r3 R3.out w5 Gw5 S3.out).mono ?_
    rintro e w3 ⟨⟨q3, n3, c3, o3, m3, d3, hm, rfl⟩, hb⟩
    obtain ⟨A3, hA⟩ : ∃ A, A = w3.alloc (.cells #[.slice q3 n3 c3, .slice o3 m3 d3] 26) := ⟨_, rfl⟩
    have K0 : BkA A3 w3.heap.size [.slice q3 n3 c3, .slice o3 m3 d3] := by rw [hA]; exact BkA.new w3 [.slice q3 n3 c3, .slice o3 m3 d3] 26
    have bA : Below w3.heap.size w3 A3 := by rw [hA]; exact ext_alloc (ext_refl _) _
    have GA3 := (Gw5.on hb).on bA
    have bW := hb.trans (bA.mono hb.size)
    have M3 := Lib.hid (hm.on bA)
    have K3 := Lib.hid K0
    have B3 := Lib.hid (B5.out.trans (bW.mono B5.out.size))
    have HA := Lib.hid hA
    clear hm hb K0 bA bW hA
    go_upto_region 10 with fail
    rw [← HA.out]
    clear HA
    obtain ⟨g3, hg⟩ : ∃ g, g = w3.heap.size := ⟨_, rfl⟩
    rw [← hg] at K3 ⊢
    clear hg
    go_wp2_with fail
    rw [← Z4.out]
    refine (parse_res z4 r4 R4.out A3 GA3 S4.out).mono ?_
    rintro e w4 ⟨⟨q4, n4, c4, o4, m4, d4, hm, rfl⟩, hb⟩
    obtain ⟨A4, hA⟩ : ∃ A, A = w4.alloc (.cells #[.slice q4 n4 c4, .slice o4 m4 d4] 26) := ⟨_, rfl⟩
    have K0 : BkA A4 w4.heap.size [.slice q4 n4 c4, .slice o4 m4 d4] := by rw [hA]; exact BkA.new w4 [.slice q4 n4 c4, .slice o4 m4 d4] 26
    have bA : Below w4.heap.size w4 A4 := by rw [hA]; exact ext_alloc (ext_refl _) _
    have GA4 := (GA3.on hb).on bA
    have bW := hb.trans (bA.mono hb.size)
    have M4 := Lib.hid (hm.on bA)
    have K4 := Lib.hid K0
    replace M3 := Lib.hid (M3.out.on bW)
    replace K3 := Lib.hid (K3.out.on bW)
    have B4 := Lib.hid (B3.out.trans (bW.mono B3.out.size))
    have HA := Lib.hid hA
    clear hm hb K0 bA bW hA
    go_upto_region 11 with fail
    rw [← HA.out]
    clear HA
    obtain ⟨g4, hg⟩ : ∃ g, g = w4.heap.size := ⟨_, rfl⟩
    rw [← hg] at K4 ⊢
    clear hg
    cases hp3 : r3 with
    | err e3 a3 =>
      have f1 : ((e3 : Int) != 0) = true := by have := parse_ne (HR3.out.trans hp3); rw [bne_iff_ne]; omega
      have f2 : ((PQ.err e3 a3).e : Int) = e3 := rfl
      rw [f2]
      go_wp2_with fail
      exact bodyPost_ret (v := .bool true) (by simp [results, Tryz.results5, go_sem]) rfl ⟨rfl, B4.out⟩
    | ok q3 =>
      have f2 : ((PQ.ok q3).e : Int) = 0 := rfl
      rw [f2]
      clear f2
      cases hp4 : r4 with
      | err e4 a4 =>
        have f1 : ((e4 : Int) != 0) = true := by have := parse_ne (HR4.out.trans hp4); rw [bne_iff_ne]; omega
        have f2 : ((PQ.err e4 a4).e : Int) = e4 := rfl
        rw [f2]
        go_wp2_with fail
        exact bodyPost_ret (v := .bool true) (by simp [results, Tryz.results5, go_sem]) rfl ⟨rfl, B4.out⟩
      | ok q4 =>
        have f2 : ((PQ.ok q4).e : Int) = 0 := rfl
        rw [f2]
        clear f2
        rw [hp3] at M3 OK3
        rw [hp4] at M4
        have lt3 := K3.out.lt
        have u3 := K3.out.c 0 _ rfl
        have v3 := K3.out.c 1 _ rfl
        by_cases hm3 : m3 = 0
        rotate_left
        · have j1 : (0 : Int) < (m3 : Int) := by omega
          go_wp2_with fail
          exact bodyPost_ret (v := .bool true) (by simp [results, Tryz.results5, go_sem]) rfl ⟨rfl, B4.out⟩
        have hmo := M3.out.o.1
        rw [hm3] at hmo
        subst hm3
        have HO := Lib.hid (show q3.order = [] from List.length_eq_zero_iff.1 hmo.symm)
        by_cases hn3 : n3 = 1
        rotate_left
        · have j1 : ((n3 : Int) != 1) = true := by rw [bne_iff_ne]; omega
          clear hmo
          go_wp2_with fail
          exact bodyPost_ret (v := .bool true) (by simp [results, Tryz.results5, go_sem]) rfl ⟨rfl, B4.out⟩
        subst hn3
        have hl3 : q3.sels.length = 1 := M3.out.s.1.symm
        obtain ⟨y, hy⟩ : ∃ y, q3.sels[0]? = some y := ⟨_, List.getElem?_eq_getElem (by omega)⟩
        obtain ⟨gs, os, ra, rfl, lgs, hSM, s0, s1, s2, s3, s4⟩ := M3.out.s.2.2.sl hy
        have HL3 := Lib.hid hl3
        have HGR := Lib.hid (show ra.g.n = y.group.length from hSM.g.1)
        have HY := Lib.hid hy
        simp only [Nat.zero_mul, Nat.add_zero] at s0 s1 s2 s3 s4
        obtain ⟨⟨gq, gn, gc⟩, hgr⟩ : ∃ u, u = ra.g := ⟨_, rfl⟩
        rw [← hgr] at s4 HGR
        clear hmo hl3 hy hSM s0 s1 s2 s3 hgr
        dsimp only at s4
        by_cases hgn : gn = 0
        rotate_left
        · have j1 : (0 : Int) < (gn : Int) := by omega
          go_wp2_with fail
          exact bodyPost_ret (v := .bool true) (by simp [results, Tryz.results5, go_sem]) rfl ⟨rfl, B4.out⟩
        have hgr0 : y.group = [] := by have := HGR.out; dsimp only at this; exact List.length_eq_zero_iff.1 (by omega)
        have hall : ∀ x ∈ q3.sels, x.group = [] := fun x hx => by
          obtain ⟨j, hj, he⟩ := List.getElem_of_mem hx
          obtain rfl : j = 0 := by have := HL3.out; omega
          have := HY.out
          rw [List.getElem?_eq_getElem hj, he] at this
          cases this
          exact hgr0
        obtain rfl : q3 = q4 := parse_brackets (HR3.out.trans hp3) (HR4.out.trans hp4) HL3.out HO.out hall
        subst hgn
        have lt4 := K4.out.lt
        have u4 := K4.out.c 0 _ rfl
        have v4 := K4.out.c 1 _ rfl
        have QB := Lib.hid (queries_any q3 OK3.out _ _ _ _ _ _ _ _ _ _ _ _ A4 M3.out M4.out)
        clear hall hgr0
        go_wp2_with fail
        refine QB.out.mono ?_
        rintro e w6 ⟨rfl, hb⟩
        have B6 := Lib.hid (B4.out.trans (hb.mono B4.out.size))
        clear hb QB lt3 u3 v3 lt4 u4 v4 s4
        go_wp2_with fail
        exact bodyPost_ret (v := .bool true) (by simp [results, Tryz.results5, go_sem]) rfl ⟨rfl, B6.out⟩
  · have e1 : ((x1 : Int) == 0) = false := by rw [beq_eq_false_iff_ne]; omega
    clear hyy
    go_upto_region 9 with fail
    clear hne
    go_wp2_with fail
    rw [← Z3.out]
    refine (parse_res z3 r3 R3.out w5 Gw5 S3.out).mono ?_
    rintro e w3 ⟨⟨q3, n3, c3, o3, m3, d3, hm, rfl⟩, hb⟩
    obtain ⟨A3, hA⟩ : ∃ A, A = w3.alloc (.cells #[.slice q3 n3 c3, .slice o3 m3 d3] 26) := ⟨_, rfl⟩
    have K0 : BkA A3 w3.heap.size [.slice q3 n3 c3, .slice o3 m3 d3] := by rw [hA]; exact BkA.new w3 [.slice q3 n3 c3, .slice o3 m3 d3] 26
    have bA : Below w3.heap.size w3 A3 := by rw [hA]; exact ext_alloc (ext_refl _) _
    have GA3 := (Gw5.on hb).on bA
    have bW := hb.trans (bA.mono hb.size)
    have M3 := Lib.hid (hm.on bA)
    have K3 := Lib.hid K0
    have B3 := Lib.hid (B5.out.trans (bW.mono B5.out.size))
    have HA := Lib.hid hA
    clear hm hb K0 bA bW hA
    go_upto_region 10 with fail
    rw [← HA.out]
    clear HA
    obtain ⟨g3, hg⟩ : ∃ g, g = w3.heap.size := ⟨_, rfl⟩
    rw [← hg] at K3 ⊢
    clear hg
    go_wp2_with fail
    rw [← Z4.out]
    refine (parse_res z4 r4 R4.out A3 GA3 S4.out).mono ?_
    rintro e w4 ⟨⟨q4, n4, c4, o4, m4, d4, hm, rfl⟩, hb⟩
    obtain ⟨A4, hA⟩ : ∃ A, A = w4.alloc (.cells #[.slice q4 n4 c4, .slice o4 m4 d4] 26) := ⟨_, rfl⟩
    have K0 : BkA A4 w4.heap.size [.slice q4 n4 c4, .slice o4 m4 d4] := by rw [hA]; exact BkA.new w4 [.slice q4 n4 c4, .slice o4 m4 d4] 26
    have bA : Below w4.heap.size w4 A4 := by rw [hA]; exact ext_alloc (ext_refl _) _
    have GA4 := (GA3.on hb).on bA
    have bW := hb.trans (bA.mono hb.size)
    have M4 := Lib.hid (hm.on bA)
    have K4 := Lib.hid K0
    replace M3 := Lib.hid (M3.out.on bW)
    replace K3 := Lib.hid (K3.out.on bW)
    have B4 := Lib.hid (B3.out.trans (bW.mono B3.out.size))
    have HA := Lib.hid hA
    clear hm hb K0 bA bW hA
    go_upto_region 11 with fail
    rw [← HA.out]
    clear HA
    obtain ⟨g4, hg⟩ : ∃ g, g = w4.heap.size := ⟨_, rfl⟩
    rw [← hg] at K4 ⊢
    clear hg
    cases hp3 : r3 with
    | err e3 a3 =>
      have f1 : ((e3 : Int) != 0) = true := by have := parse_ne (HR3.out.trans hp3); rw [bne_iff_ne]; omega
      have f2 : ((PQ.err e3 a3).e : Int) = e3 := rfl
      rw [f2]
      go_wp2_with fail
      exact bodyPost_ret (v := .bool true) (by simp [results, Tryz.results5, go_sem]) rfl ⟨rfl, B4.out⟩
    | ok q3 =>
      have f2 : ((PQ.ok q3).e : Int) = 0 := rfl
      rw [f2]
      clear f2
      cases hp4 : r4 with
      | err e4 a4 =>
        have f1 : ((e4 : Int) != 0) = true := by have := parse_ne (HR4.out.trans hp4); rw [bne_iff_ne]; omega
        have f2 : ((PQ.err e4 a4).e : Int) = e4 := rfl
        rw [f2]
        go_wp2_with fail
        exact bodyPost_ret (v := .bool true) (by simp [results, Tryz.results5, go_sem]) rfl ⟨rfl, B4.out⟩
      | ok q4 =>
        have f2 : ((PQ.ok q4).e : Int) = 0 := rfl
        rw [f2]
        clear f2
        rw [hp3] at M3 OK3
        rw [hp4] at M4
        have lt3 := K3.out.lt
        have u3 := K3.out.c 0 _ rfl
        have v3 := K3.out.c 1 _ rfl
        by_cases hm3 : m3 = 0
        rotate_left
        · have j1 : (0 : Int) < (m3 : Int) := by omega
          go_wp2_with fail
          exact bodyPost_ret (v := .bool true) (by simp [results, Tryz.results5, go_sem]) rfl ⟨rfl, B4.out⟩
        have hmo := M3.out.o.1
        rw [hm3] at hmo
        subst hm3
        have HO := Lib.hid (show q3.order = [] from List.length_eq_zero_iff.1 hmo.symm)
        by_cases hn3 : n3 = 1
        rotate_left
        · have j1 : ((n3 : Int) != 1) = true := by rw [bne_iff_ne]; omega
          clear hmo
          go_wp2_with fail
          exact bodyPost_ret (v := .bool true) (by simp [results, Tryz.results5, go_sem]) rfl ⟨rfl, B4.out⟩
        subst hn3
        have hl3 : q3.sels.length = 1 := M3.out.s.1.symm
        obtain ⟨y, hy⟩ : ∃ y, q3.sels[0]? = some y := ⟨_, List.getElem?_eq_getElem (by omega)⟩
        obtain ⟨gs, os, ra, rfl, lgs, hSM, s0, s1, s2, s3, s4⟩ := M3.out.s.2.2.sl hy
        have HL3 := Lib.hid hl3
        have HGR := Lib.hid (show ra.g.n = y.group.length from hSM.g.1)
        have HY := Lib.hid hy
        simp only [Nat.zero_mul, Nat.add_zero] at s0 s1 s2 s3 s4
        obtain ⟨⟨gq, gn, gc⟩, hgr⟩ : ∃ u, u = ra.g := ⟨_, rfl⟩
        rw [← hgr] at s4 HGR
        clear hmo hl3 hy hSM s0 s1 s2 s3 hgr
        dsimp only at s4
        by_cases hgn : gn = 0
        rotate_left
        · have j1 : (0 : Int) < (gn : Int) := by omega
          go_wp2_with fail
          exact bodyPost_ret (v := .bool true) (by simp [results, Tryz.results5, go_sem]) rfl ⟨rfl, B4.out⟩
        have hgr0 : y.group = [] := by have := HGR.out; dsimp only at this; exact List.length_eq_zero_iff.1 (by omega)
        have hall : ∀ x ∈ q3.sels, x.group = [] := fun x hx => by
          obtain ⟨j, hj, he⟩ := List.getElem_of_mem hx
          obtain rfl : j = 0 := by have := HL3.out; omega
          have := HY.out
          rw [List.getElem?_eq_getElem hj, he] at this
          cases this
          exact hgr0
        obtain rfl : q3 = q4 := parse_brackets (HR3.out.trans hp3) (HR4.out.trans hp4) HL3.out HO.out hall
        subst hgn
        have lt4 := K4.out.lt
        have u4 := K4.out.c 0 _ rfl
        have v4 := K4.out.c 1 _ rfl
        have QB := Lib.hid (queries_any q3 OK3.out _ _ _ _ _ _ _ _ _ _ _ _ A4 M3.out M4.out)
        clear hall hgr0
        go_wp2_with fail
        refine QB.out.mono ?_
        rintro e w6 ⟨rfl, hb⟩
        have B6 := Lib.hid (B4.out.trans (hb.mono B4.out.size))
        clear hb QB lt3 u3 v3 lt4 u4 v4 s4
        go_wp2_with fail
        exact bodyPost_ret (v := .bool true) (by simp [results, Tryz.results5, go_sem]) rfl ⟨rfl, B6.out⟩

end Go.Proofs.YtgmmbfcjjgehoaaGreatDoor
