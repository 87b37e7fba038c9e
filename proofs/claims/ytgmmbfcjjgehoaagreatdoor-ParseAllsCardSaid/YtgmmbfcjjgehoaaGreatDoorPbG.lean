/- ParseAlls: the law's walk. WRITTEN by wip/make/pblaws.py. -/
import Derived.Test.YtgmmbfcjjgehoaaGreatDoorPbH
namespace Go.Proofs.YtgmmbfcjjgehoaaGreatDoor
open Go.RowKit Go.Deep
set_option maxRecDepth 100000

theorem le4 {a b n1 n2 : Nat} (h1 : n1 = a) (h2 : n2 = b) (h : a + b ≤ 4) : ¬ (4 : Int) < ((n1 + n2 : Nat) : Int) := by omega
set_option maxHeartbeats 40000000 in
theorem alls9_walk (s t : ByteArray) (w : World) (hG : GV w) : Calls Tryz.prog 6 #[.string s, .string t] w fun e w' => e = .returned (.bool true) ∧ Below w.heap.size w w' := by
  go_enter Tryz.func6, Tryz.ntmps6
  go_wp2_with fail
  refine (ex9_any w hG).mono ?_
  rintro e w1 ⟨rfl, hb1⟩
  have Gw1 := hG.on hb1
  have BW := Lib.hid hb1
  clear hb1 hG
  obtain ⟨zs, hzs⟩ : ∃ z, z = s.size := ⟨_, rfl⟩
  obtain ⟨zt, hzt⟩ : ∃ z, z = t.size := ⟨_, rfl⟩
  have hzs' : s.size = zs := hzs.symm
  have hzt' : t.size = zt := hzt.symm
  by_cases h1 : zs ≤ 900
  rotate_left
  · have i1 : (900 : Int) < (zs : Int) := by omega
    clear hzs hzt
    go_wp2_with fail
    exact bodyPost_ret (v := .bool true) (by simp [results, Tryz.results6, go_sem]) rfl ⟨rfl, BW.out⟩
  by_cases h2 : zt ≤ 900
  rotate_left
  · have i1 : ¬ (900 : Int) < (zs : Int) := by omega
    have i2 : (900 : Int) < (zt : Int) := by omega
    clear hzs hzt
    go_wp2_with fail
    exact bodyPost_ret (v := .bool true) (by simp [results, Tryz.results6, go_sem]) rfl ⟨rfl, BW.out⟩
  have i1 : ¬ (900 : Int) < (zs : Int) := by omega
  have i2 : ¬ (900 : Int) < (zt : Int) := by omega
  have hl1 : s.data.toList.length ≤ 900 := by rw [show s.data.toList.length = s.size from rfl]; omega
  have hl2 : t.data.toList.length ≤ 900 := by rw [show t.data.toList.length = t.size from rfl]; omega
  have S1 := Lib.hid (show s.size ≤ 9223372036854775807 by omega)
  have S2 := Lib.hid (show t.size ≤ 9223372036854775807 by omega)
  have S3 := Lib.hid (show (s ++ ⟨#[32, 85, 78, 73, 79, 78, 32, 65, 76, 76, 32]⟩ ++ t : ByteArray).size ≤ 9223372036854775807 by rw [ByteArray.size_append, ByteArray.size_append]; show s.size + 11 + t.size ≤ _; omega)
  obtain ⟨r1, hr1⟩ : ∃ r, parseS s.data.toList = r := ⟨_, rfl⟩
  obtain ⟨r2, hr2⟩ : ∃ r, parseS t.data.toList = r := ⟨_, rfl⟩
  obtain ⟨r3, hr3⟩ : ∃ r, parseS (s.data.toList ++ 32 :: (unionS ++ 32 :: t.data.toList)) = r := ⟨_, rfl⟩
  have R1 := Lib.hid hr1
  have R2 := Lib.hid hr2
  have R3 := Lib.hid (show parseS (s ++ ⟨#[32, 85, 78, 73, 79, 78, 32, 65, 76, 76, 32]⟩ ++ t : ByteArray).data.toList = r3 by rw [ba_app, ba_app, List.append_assoc]; exact hr3)
  obtain ⟨z3, hz3⟩ : ∃ z, z = s ++ (⟨#[32, 85, 78, 73, 79, 78, 32, 65, 76, 76, 32]⟩ : ByteArray) ++ t := ⟨_, rfl⟩
  rw [← hz3] at S3 R3
  have Z3 := Lib.hid hz3
  have PAL := Lib.hid (fun a (ha : parseS s.data.toList = .ok a) => parse_alls hl1 hl2 ha)
  have HR3 := Lib.hid hr3
  clear hzs hzt hz3 hr1 hr2 hr3 hl1 hl2 h1 h2
  go_upto_region 4 with fail
  clear i1 i2
  go_wp2_with fail
  refine (parse_res s r1 R1.out w1 Gw1 S1.out).mono ?_
  rintro e w1 ⟨⟨q1, n1, c1, o1, m1, d1, hm, rfl⟩, hb⟩
  obtain ⟨A1, hA⟩ : ∃ A, A = w1.alloc (.cells #[.slice q1 n1 c1, .slice o1 m1 d1] 26) := ⟨_, rfl⟩
  have K0 : BkA A1 w1.heap.size [.slice q1 n1 c1, .slice o1 m1 d1] := by rw [hA]; exact BkA.new w1 [.slice q1 n1 c1, .slice o1 m1 d1] 26
  have bA : Below w1.heap.size w1 A1 := by rw [hA]; exact ext_alloc (ext_refl _) _
  have GA1 := (Gw1.on hb).on bA
  have bW := hb.trans (bA.mono hb.size)
  have M1 := Lib.hid (hm.on bA)
  have K1 := Lib.hid K0
  have B1 := Lib.hid (BW.out.trans (bW.mono BW.out.size))
  have HA := Lib.hid hA
  clear hm hb K0 bA bW hA
  go_upto_region 5 with fail
  rw [← HA.out]
  clear HA
  obtain ⟨g1, hg⟩ : ∃ g, g = w1.heap.size := ⟨_, rfl⟩
  rw [← hg] at K1 ⊢
  clear hg
  go_wp2_with fail
  refine (parse_res t r2 R2.out A1 GA1 S2.out).mono ?_
  rintro e w2 ⟨⟨q2, n2, c2, o2, m2, d2, hm, rfl⟩, hb⟩
  obtain ⟨A2, hA⟩ : ∃ A, A = w2.alloc (.cells #[.slice q2 n2 c2, .slice o2 m2 d2] 26) := ⟨_, rfl⟩
  have K0 : BkA A2 w2.heap.size [.slice q2 n2 c2, .slice o2 m2 d2] := by rw [hA]; exact BkA.new w2 [.slice q2 n2 c2, .slice o2 m2 d2] 26
  have bA : Below w2.heap.size w2 A2 := by rw [hA]; exact ext_alloc (ext_refl _) _
  have GA2 := (GA1.on hb).on bA
  have bW := hb.trans (bA.mono hb.size)
  have M2 := Lib.hid (hm.on bA)
  have K2 := Lib.hid K0
  replace M1 := Lib.hid (M1.out.on bW)
  replace K1 := Lib.hid (K1.out.on bW)
  have B2 := Lib.hid (B1.out.trans (bW.mono B1.out.size))
  have HA := Lib.hid hA
  clear hm hb K0 bA bW hA
  go_upto_region 6 with fail
  rw [← HA.out]
  clear HA
  obtain ⟨g2, hg⟩ : ∃ g, g = w2.heap.size := ⟨_, rfl⟩
  rw [← hg] at K2 ⊢
  clear hg
  go_wp2_with fail
  rw [← Z3.out]
  refine (parse_res z3 r3 R3.out A2 GA2 S3.out).mono ?_
  rintro e w3 ⟨⟨q3, n3, c3, o3, m3, d3, hm, rfl⟩, hb⟩
  obtain ⟨A3, hA⟩ : ∃ A, A = w3.alloc (.cells #[.slice q3 n3 c3, .slice o3 m3 d3] 26) := ⟨_, rfl⟩
  have K0 : BkA A3 w3.heap.size [.slice q3 n3 c3, .slice o3 m3 d3] := by rw [hA]; exact BkA.new w3 [.slice q3 n3 c3, .slice o3 m3 d3] 26
  have bA : Below w3.heap.size w3 A3 := by rw [hA]; exact ext_alloc (ext_refl _) _
  have GA3 := (GA2.on hb).on bA
  have bW := hb.trans (bA.mono hb.size)
  have M3 := Lib.hid (hm.on bA)
  have K3 := Lib.hid K0
  replace M1 := Lib.hid (M1.out.on bW)
  replace M2 := Lib.hid (M2.out.on bW)
  replace K1 := Lib.hid (K1.out.on bW)
  replace K2 := Lib.hid (K2.out.on bW)
  have B3 := Lib.hid (B2.out.trans (bW.mono B2.out.size))
  have HA := Lib.hid hA
  clear hm hb K0 bA bW hA
  go_upto_region 7 with fail
  rw [← HA.out]
  clear HA
  obtain ⟨g3, hg⟩ : ∃ g, g = w3.heap.size := ⟨_, rfl⟩
  rw [← hg] at K3 ⊢
  clear hg
  cases hp1 : r1 with
  | err e1 a1 =>
    have f1 : ((e1 : Int) != 0) = true := by have := parse_ne (R1.out.trans hp1); rw [bne_iff_ne]; omega
    have f2 : ((PQ.err e1 a1).e : Int) = e1 := rfl
    rw [f2]
    go_wp2_with fail
    exact bodyPost_ret (v := .bool true) (by simp [results, Tryz.results6, go_sem]) rfl ⟨rfl, B3.out⟩
  | ok a =>
    have f2 : ((PQ.ok a).e : Int) = 0 := rfl
    rw [f2]
    clear f2
    replace M1 : Hid (QuM A3 a q1 n1 c1 o1 m1 d1) := by rw [hp1] at M1; exact M1
    cases hp2 : r2 with
    | err e2 a2 =>
      have f1 : ((e2 : Int) != 0) = true := by have := parse_ne (R2.out.trans hp2); rw [bne_iff_ne]; omega
      have f1' : ((e2 : Int) == 0) = false := by have := parse_ne (R2.out.trans hp2); rw [beq_eq_false_iff_ne]; omega
      have f2 : ((PQ.err e2 a2).e : Int) = e2 := rfl
      rw [f2]
      obtain ⟨e3, a3, h3⟩ := (PAL.out a (R1.out.trans hp1)).2 e2 a2 (R2.out.trans hp2)
      have hp3 := HR3.out.symm.trans h3
      have f3 : ((e3 : Int) != 0) = true := by have := parse_ne h3; rw [bne_iff_ne]; omega
      rw [hp3]
      have f4 : ((PQ.err e3 a3).e : Int) = e3 := rfl
      rw [f4]
      clear f2 f4 hp3 h3 hp1 hp2
      go_wp2_with fail
      exact bodyPost_ret (v := .bool true) (by simp [results, Tryz.results6, go_sem]) rfl ⟨rfl, B3.out⟩
    | ok b =>
      have f2 : ((PQ.ok b).e : Int) = 0 := rfl
      rw [f2]
      clear f2
      replace M2 : Hid (QuM A3 b q2 n2 c2 o2 m2 d2) := by rw [hp2] at M2; exact M2
      have lt1 := K1.out.lt
      have u1 := K1.out.c 0 _ rfl
      have v1 := K1.out.c 1 _ rfl
      by_cases hm1 : m1 = 0
      rotate_left
      · have j1 : (0 : Int) < (m1 : Int) := by omega
        clear hp1 hp2
        go_wp2_with fail
        exact bodyPost_ret (v := .bool true) (by simp [results, Tryz.results6, go_sem]) rfl ⟨rfl, B3.out⟩
      have hmo := M1.out.o.1
      rw [hm1] at hmo
      subst hm1
      have HO := Lib.hid (show a.order = [] from List.length_eq_zero_iff.1 hmo.symm)
      clear hmo
      have OKA := Lib.hid (show OkQ a from OkQ.of (R1.out.trans hp1))
      have OKB := Lib.hid (show OkQ b from OkQ.of (R2.out.trans hp2))
      have lt2 := K2.out.lt
      have u2 := K2.out.c 0 _ rfl
      have hn1 : n1 ≤ 8 := by have h1 := M1.out.s.1; have h2 := OKA.out.sels; omega
      have hn2 : n2 ≤ 8 := by have h1 := M2.out.s.1; have h2 := OKB.out.sels; omega
      have hw : wrap64 ((n1 : Int) + (n2 : Int)) = ((n1 + n2 : Nat) : Int) := by unfold wrap64; omega
      rcases (PAL.out a (R1.out.trans hp1)).1 b HO.out (R2.out.trans hp2) with ⟨h4, h3⟩ | ⟨p, h3⟩
      · have hp3 := HR3.out.symm.trans h3
        have f4 : ((PQ.ok ⟨a.sels ++ b.sels, b.order⟩).e : Int) = 0 := rfl
        rw [hp3, f4]
        replace M3 : Hid (QuM A3 ⟨a.sels ++ b.sels, b.order⟩ q3 n3 c3 o3 m3 d3) := by rw [hp3] at M3; exact M3
        have h4' := le4 M1.out.s.1 M2.out.s.1 h4
        have OK3 := Lib.hid (show OkQ ⟨a.sels ++ b.sels, b.order⟩ from OkQ.of h3)
        clear f4 hp3 h3 hp1 hp2 h4
        go_upto_region 11 with fail
        obtain ⟨KA, ka1, ka2, ka3⟩ := sels_raw M1.out.s.2.2
        obtain ⟨KB, kb1, kb2, kb3⟩ := sels_raw M2.out.s.2.2
        have e1 : n1 = KA.length := M1.out.s.1.trans ka1.symm
        have e2 : n2 = KB.length := M2.out.s.1.trans kb1.symm
        subst e1 e2
        have HA1 := Lib.hid ka1
        have HA3 := Lib.hid ka3
        have HB1 := Lib.hid kb1
        have HB3 := Lib.hid kb3
        have v2 := K2.out.c 1 _ rfl
        have bD : Below A3.heap.size A3 A3.drew := (Below.refl _ _).drew
        have AD := Lib.hid (show ArrA 0 A3.heap.size q1 5 KA (fun g o r => ∀ (k : Nat) u, r.cells[k]? = some u → A3.drew.cell? ⟨g, o + k, none⟩ = some u) from ka2)
        have BD := Lib.hid kb2
        have AD0 := Lib.hid (show ArrA 0 A3.heap.size q1 5 KA (fun g o r => ∀ (k : Nat) u, r.cells[k]? = some u → (A3.drew.alloc (.cells #[.slice none 0 0, .slice none 0 0] 26)).cell? ⟨g, o + k, none⟩ = some u) from fun i hi => by obtain ⟨g, off, h1, h2, h3, h4⟩ := ka2 i hi; exact ⟨g, off, h1, h2, h3, fun j r hr k u hu => ((ext_alloc (ext_refl A3.drew) (.cells #[.slice none 0 0, .slice none 0 0] 26)).cell (p := ⟨g, _, none⟩) h3).trans (h4 j r hr k u hu)⟩)
        clear ka1 ka2 ka3 kb1 kb2 kb3 hw h4'
        go_cut [15] (fun v wx => ∃ (g : Nat) (qb : Option Addr) (nb cb : Nat), v = .pointer (some ⟨g, 0, none⟩) ∧ Hid (BothR A3 wx g qb nb cb o2 m2 d2 ([] ++ KA ++ KB)))
        case first =>
         go_wp2_with fail
         go_region_law (first
           | (refine step_append_flat rfl _ _ 23 38 rfl Tryz.underlying23 _ 104 Tryz.info_sel rfl (by omega) RawS.cells_len9 RawS.one A3.heap.size (.slice none 0 0) [] rfl (OwnF.nil _ _ _) _ _ _ KA rfl rfl 0 A3.heap.size AD.out (by unfold maxLen; simp; omega) (by simp; omega) (by simp) ?_; intro qa ca wA OA bA oA hatA; have HWA := Lib.hid (And.intro OA bA); have t1 : wA.cell? ⟨g2, 0, none⟩ = some (.slice q2 KB.length c2) := (bA.cell (p := ⟨g2, 0, none⟩) lt2).trans u2; have t2 : wA.cell? ⟨g2, 1, none⟩ = some (.slice o2 m2 d2) := (bA.cell (p := ⟨g2, 1, none⟩) lt2).trans v2; have t3 : g2 < wA.heap.size := Nat.lt_of_lt_of_le lt2 bA.size; clear OA bA oA hatA)
           | (refine step_append_flat rfl _ _ 23 38 rfl Tryz.underlying23 _ 104 Tryz.info_sel rfl (by omega) RawS.cells_len9 RawS.one (A3.heap.size + 1) (.slice none 0 0) [] rfl (OwnF.nil _ _ _) _ _ _ KA rfl rfl 0 A3.heap.size AD0.out (by unfold maxLen; simp; omega) (by simp; omega) (by simp) ?_; intro qa ca wC OA bA oA hatA; have NBC : BkA wC A3.heap.size [.slice none 0 0, .slice none 0 0] := (BkA.new A3.drew [.slice none 0 0, .slice none 0 0] 26).outs (S := fun k => (Value.slice none 0 0).ownBlock = some k) oA (by simp [Value.ownBlock]); have BC : Below A3.heap.size A3 wC := (bD.alloc bD.size (.cells #[.slice none 0 0, .slice none 0 0] 26)).trans (bA.mono (Nat.le_succ _)); have HWC := Lib.hid (And.intro OA (And.intro BC NBC)); have t1 : wC.cell? ⟨g2, 0, none⟩ = some (.slice q2 KB.length c2) := (BC.cell (p := ⟨g2, 0, none⟩) lt2).trans u2; have t2 : wC.cell? ⟨g2, 1, none⟩ = some (.slice o2 m2 d2) := (BC.cell (p := ⟨g2, 1, none⟩) lt2).trans v2; have t3 : g2 < wC.heap.size := Nat.lt_of_lt_of_le lt2 BC.size; clear OA bA oA hatA NBC BC)
           | (refine step_append_flat rfl _ _ 23 38 rfl Tryz.underlying23 _ 104 Tryz.info_sel rfl (by omega) RawS.cells_len9 RawS.one (A3.heap.size + 1) (.slice qa ([] ++ KA).length ca) ([] ++ KA) rfl HWC.out.1 _ _ _ KB rfl rfl 0 A3.heap.size (fun i hi => by obtain ⟨g, off, h1, h2, h3, h4⟩ := BD.out i hi; exact ⟨g, off, h1, h2, h3, fun j r hr k u hu => (HWC.out.2.1.cell (p := ⟨g, _, none⟩) h3).trans (h4 j r hr k u hu)⟩) (by unfold maxLen; simp; omega) (by simp; omega) (HWC.out.2.2.lt) ?_; intro qb cb wB OB bB oB hatB; have NB := HWC.out.2.2.outs (S := fun k => (Value.slice qa ([] ++ KA).length ca).ownBlock = some k) oB (fun e => Nat.lt_irrefl _ (HWC.out.1.lt _ e).1); have B9 : Below A3.heap.size A3 wB := HWC.out.2.1.trans (bB.mono (Nat.le_succ _)); have HWB := Lib.hid (And.intro OB (And.intro B9 NB)); have s2 : wB.cell? ⟨g2, 1, none⟩ = some (.slice o2 m2 d2) := (B9.cell (p := ⟨g2, 1, none⟩) lt2).trans v2; have s3 : g2 < wB.heap.size := Nat.lt_of_lt_of_le lt2 B9.size; have x0 := NB.c 0 _ rfl; have x1 := NB.c 1 _ rfl; have xf := NB.fz; have xl := NB.lt; clear OB bB oB hatB NB B9)
           | (refine step_append_flat rfl _ _ 23 38 rfl Tryz.underlying23 _ 104 Tryz.info_sel rfl (by omega) RawS.cells_len9 RawS.one A3.heap.size (.slice qa ([] ++ KA).length ca) ([] ++ KA) rfl HWA.out.1 _ _ _ KB rfl rfl 0 A3.heap.size (fun i hi => by obtain ⟨g, off, h1, h2, h3, h4⟩ := BD.out i hi; exact ⟨g, off, h1, h2, h3, fun j r hr k u hu => (HWA.out.2.cell (p := ⟨g, _, none⟩) h3).trans (h4 j r hr k u hu)⟩) (by unfold maxLen; simp; omega) (by simp; omega) HWA.out.2.size ?_; intro qb cb wB OB bB oB hatB; have HWB := Lib.hid (And.intro OB (HWA.out.2.trans bB)); have s2 : wB.cell? ⟨g2, 1, none⟩ = some (.slice o2 m2 d2) := (bB.cell (p := ⟨g2, 1, none⟩) lt2).trans t2; have s3 : g2 < wB.heap.size := Nat.lt_of_lt_of_le t3 oB.size; clear OB bB oB hatB)
           | (refine step_append_flat rfl _ _ 23 38 rfl Tryz.underlying23 _ 104 Tryz.info_sel rfl (by omega) RawS.cells_len9 RawS.one A3.heap.size (.slice qa ([] ++ KA).length ca) ([] ++ KA) rfl (HWA.out.1.later (ext_alloc (ext_refl _) _)) _ _ _ KB rfl rfl 0 A3.heap.size (fun i hi => by obtain ⟨g, off, h1, h2, h3, h4⟩ := BD.out i hi; exact ⟨g, off, h1, h2, h3, fun j r hr k u hu => ((HWA.out.2.alloc HWA.out.2.size (.cells #[.slice none 0 0, .slice none 0 0] 26)).cell (p := ⟨g, _, none⟩) h3).trans (h4 j r hr k u hu)⟩) (by unfold maxLen; simp; omega) (by simp; omega) (Nat.le_trans HWA.out.2.size (ext_alloc (ext_refl wA) _).size) ?_; intro qb cb wB OB bB oB hatB; have t2U : (wA.alloc (.cells #[.slice none 0 0, .slice none 0 0] 26)).cell? ⟨g2, 1, none⟩ = some (.slice o2 m2 d2) := ((ext_alloc (ext_refl wA) (.cells #[.slice none 0 0, .slice none 0 0] 26)).cell (p := ⟨g2, 1, none⟩) t3).trans t2; have NBU := BkA.new wA [.slice none 0 0, .slice none 0 0] 26; have NB := NBU.outs (S := fun k => (Value.slice qa ([] ++ KA).length ca).ownBlock = some k) oB (fun e => Nat.lt_irrefl _ (HWA.out.1.lt _ e).2); have NE : ∀ k, (Value.slice qb ([] ++ KA ++ KB).length cb).ownBlock = some k → k ≠ wA.heap.size := (fun k hk => by rcases hatB with h | h; (have h2 := (HWA.out.1.lt k (h.symm.trans hk)).2; omega); (have h2 := Option.some.inj (hk.symm.trans h); have h3 : (wA.alloc (.cells #[.slice none 0 0, .slice none 0 0] 26)).heap.size = wA.heap.size + 1 := (by simp); omega)); have HNE := Lib.hid NE; clear NE; have HWB := Lib.hid (And.intro OB (And.intro (HWA.out.2.trans (((ext_alloc (ext_refl wA) (.cells #[.slice none 0 0, .slice none 0 0] 26)).mono HWA.out.2.size).trans bB)) NB)); have s2 : wB.cell? ⟨g2, 1, none⟩ = some (.slice o2 m2 d2) := (bB.cell (p := ⟨g2, 1, none⟩) lt2).trans t2U; have s3 : g2 < wB.heap.size := Nat.lt_of_lt_of_le (Nat.lt_of_lt_of_le t3 (ext_alloc (ext_refl wA) (.cells #[.slice none 0 0, .slice none 0 0] 26)).size) oB.size; have x0 := NB.c 0 _ rfl; have x1 := NB.c 1 _ rfl; have xf := NB.fz; have xl := NB.lt; clear OB bB oB hatB t2U NBU NB))
         all_goals go_wp2_with fail
         all_goals go_meet
         all_goals (first
           | exact ⟨_, qb, _, cb, rfl, Lib.hid (both_last (by simp) HWB.out.2 HWB.out.1 _)⟩
           | exact ⟨_, qb, _, cb, rfl, Lib.hid (both_set (by simp) (Below.trans (Below.drew (Below.refl A3.heap.size A3)) HWB.out.2.1) (HWA.out.2.size) HWB.out.1 HWB.out.2.2 HNE.out)⟩
           | exact ⟨_, qb, _, cb, rfl, Lib.hid (both_set (by simp) HWB.out.2.1 (Nat.le_refl _) HWB.out.1 HWB.out.2.2 (fun k hk e => by have h := (HWB.out.1.lt k hk).1; omega))⟩)
        case rest =>
          obtain ⟨g, qb, nb, cb, rfl, hB⟩ := hcut
          obtain ⟨X, hX⟩ : ∃ X, X = wc := ⟨_, rfl⟩
          rw [← hX] at hB ⊢
          have HB := Lib.hid hB.out
          have BX := Lib.hid (B3.out.trans (hB.out.bel.mono B3.out.size))
          have x0 := hB.out.c0
          have x1 := hB.out.c1
          have xl := hB.out.lt
          have K3X := K3.out.on hB.out.bel
          have y0 := K3X.c 0 _ rfl
          have y1 := K3X.c 1 _ rfl
          have yl := K3X.lt
          obtain ⟨base, own⟩ := hB.out.own
          have QA := Lib.hid (queries_any ⟨a.sels ++ b.sels, b.order⟩ OK3.out _ _ _ _ _ _ _ _ _ _ _ _ X (both_qm hB.out.bel own HA1.out HA3.out HB1.out HB3.out M2.out) (M3.out.on hB.out.bel))
          clear hX hB K3X own u1 v1 u2 v2 lt1 lt2 hn1 hn2
          go_wp2_with fail
          refine QA.out.mono ?_
          rintro e w6 ⟨rfl, hb⟩
          have B6 := Lib.hid (BX.out.trans (hb.mono BX.out.size))
          clear hb QA
          go_wp2_with fail
          exact bodyPost_ret (v := .bool true) (by simp [results, Tryz.results6, go_sem]) rfl ⟨rfl, B6.out⟩
      · have hp3 := HR3.out.symm.trans h3
        have f4 : ((PQ.err 5 p).e : Int) = 5 := rfl
        rw [hp3, f4]
        clear f4 hp3 h3 hp1 hp2
        by_cases h4 : n1 + n2 ≤ 4
        · have h4' : ¬ (4 : Int) < ((n1 + n2 : Nat) : Int) := by omega
          go_wp2_with fail
          exact bodyPost_ret (v := .bool true) (by simp [results, Tryz.results6, go_sem]) rfl ⟨rfl, B3.out⟩
        · have h4' : (4 : Int) < ((n1 + n2 : Nat) : Int) := by omega
          go_wp2_with fail
          exact bodyPost_ret (v := .bool true) (by simp [results, Tryz.results6, go_sem]) rfl ⟨rfl, B3.out⟩

end Go.Proofs.YtgmmbfcjjgehoaaGreatDoor
