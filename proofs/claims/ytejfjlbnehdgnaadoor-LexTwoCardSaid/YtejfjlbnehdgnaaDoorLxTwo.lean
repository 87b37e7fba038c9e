/- LexTwo: two texts that may be read, with a blank between, are the tokens of the first one and those of the second one: the law answers true. (Over the contract of Lex.) -/
import Derived.Test.YtejfjlbnehdgnaaDoorLxE
import Derived.Test.YtejfjlbnehdgnaaDoorWord
import Derived.Test.YtejfjlbnehdgnaaDoorLcL
namespace Go.Proofs.YtejfjlbnehdgnaaDoor
open Go.ChangeShapes Go.WideShapes Go.ChangeAt Go.RowKit Go.Joins
set_option maxRecDepth 100000

theorem lexS_two {s t : Bs} {A B : List Tok} (hA : lexS s = .ok A) (hB : lexS t = .ok B) (h1 : s.length ≤ 900) (h2 : t.length ≤ 900) :
    (A.length + B.length ≤ 400 → lexS (s ++ 32 :: t) = .ok (A ++ B.map (Tok.shift (s.length + 1)))) ∧ (400 < A.length + B.length → ∃ a, lexS (s ++ 32 :: t) = .err 5 a) := by
  obtain ⟨-, a1⟩ := lexS_ok hA
  obtain ⟨-, b1⟩ := lexS_ok hB
  have m1 := lexL_most s 0 0 A (by omega) a1
  have e1 : lexS (s ++ 32 :: t) = (lexL t (s.length + 1) A.length).pre A := by
    have h := lexL_then (c := 32) (by decide) t s 0 0 A a1
    rw [Nat.zero_add, Nat.zero_add] at h
    unfold lexS
    rw [if_neg (by simp; omega), h]
  have b2 : lexL t (s.length + 1) 0 = .ok (B.map (Tok.shift (s.length + 1))) := by
    have h := lexL_shift (s.length + 1) t 0 0
    rw [Nat.zero_add, b1] at h
    exact h
  obtain ⟨c1, c2⟩ := lexL_count t (s.length + 1) 0 A.length _ (Nat.zero_le _) (by omega) b2
  rw [List.length_map] at c1 c2
  refine ⟨fun h => ?_, fun h => ?_⟩
  · rw [e1, c1 h]; rfl
  · obtain ⟨a, ha⟩ := c2 h
    exact ⟨a, by rw [e1, ha]; rfl⟩
set_option maxHeartbeats 4000000 in
theorem two_walk (C : LexC) (s t : ByteArray) (w : World) (hG : GV w) (hs : s.size ≤ 9223372036854775807) (ht : t.size ≤ 9223372036854775807) :
    Calls Tryd.prog 7 #[.string s, .string t] w fun e w' => e = .returned (.bool true) ∧ Below w.heap.size w w' := by
  have hsl : s.data.toList.length = s.size := Array.length_toList
  have htl : t.data.toList.length = t.size := Array.length_toList
  go_enter Tryd.func7, Tryd.ntmps7
  go_wp2_with fail
  refine (ex7_any C _ hG).mono ?_
  rintro e w1 ⟨rfl, hb1⟩
  have hs1 := hb1.size
  have B1 := Lib.hid hb1
  clear hb1
  by_cases hl1 : s.size > 900
  · have z1 : (s.size : Int) > 900 := by omega
    go_wp2_with fail
    go_ret
    exact ⟨rfl, B1.out⟩
  have z1 : ¬ (s.size : Int) > 900 := by omega
  by_cases hl2 : t.size > 900
  · have z2 : (t.size : Int) > 900 := by omega
    go_wp2_with fail
    go_ret
    exact ⟨rfl, B1.out⟩
  have z2 : ¬ (t.size : Int) > 900 := by omega
  obtain ⟨R, hR⟩ : ∃ R, R = s ++ ⟨#[32]⟩ ++ t := ⟨_, rfl⟩
  have eR : R.data.toList = s.data.toList ++ 32 :: t.data.toList := by rw [hR]; simp [ByteArray.data_append]
  have hRs : R.size ≤ 1801 := by rw [hR, ByteArray.size_append, ByteArray.size_append, show (ByteArray.mk #[32]).size = 1 from rfl]; omega
  have g1 : ¬ 9223372036854775807 < s.size + 1 := by omega
  have g2 : ¬ 9223372036854775807 < s.size + 1 + t.size := by omega
  have HR := Lib.hid hR
  have ER := Lib.hid eR
  clear hR eR
  have HL := Lib.hid (And.intro hsl htl)
  clear hsl htl
  cases hA : lexS s.data.toList with
  | err er a =>
    obtain ⟨h1, -⟩ := lexS_err hA
    have hpos : (s.size : Int) > 0 := by
      have h0 : s.size ≠ 0 := fun h0 => by
        have : s.data.toList = [] := List.eq_nil_of_length_eq_zero (by rw [HL.out.1]; exact h0)
        rw [this] at hA
        cases hA
      omega
    have hpos2 : 0 < s.size := by omega
    have CB := Lib.hid (C.bad s er a w1 (hG.on B1.out) (by omega) hA)
    clear hA
    go_wp2_with fail
    refine (CB.out).mono ?_
    rintro e w2 ⟨⟨q, c, rfl⟩, hb2⟩
    have B2 := Lib.hid (B1.out.trans (hb2.mono hs1))
    have hs2 := B2.out.size
    clear hb2 CB
    go_wp2_with fail
    refine (lex_any C t w2 (hG.on B2.out) (by omega)).mono ?_
    rintro e w3 ⟨⟨q3, n3, c3, er3, a3, rfl⟩, hb3⟩
    have B3 := Lib.hid (B2.out.trans (hb3.mono hs2))
    have hs3 := B3.out.size
    clear hb3
    go_wp2_with fail
    rw [← HR.out]
    refine (lex_any C R w3 (hG.on B3.out) (by omega)).mono ?_
    rintro e w4 ⟨⟨q4, n4, c4, er4, a4, rfl⟩, hb4⟩
    have B4 := Lib.hid (B3.out.trans (hb4.mono hs3))
    clear hb4
    by_cases h4 : er4 = 0
    · subst h4
      rcases h1 with rfl | rfl
      · go_wp2_with fail
        go_ret
        exact ⟨rfl, B4.out⟩
      · go_wp2_with fail
        go_ret
        exact ⟨rfl, B4.out⟩
    · have h4b : (er4 == 0) = false := by rw [beq_eq_false_iff_ne]; exact h4
      rcases h1 with rfl | rfl
      · go_wp2_with fail
        go_ret
        exact ⟨rfl, B4.out⟩
      · go_wp2_with fail
        go_ret
        exact ⟨rfl, B4.out⟩
  | ok A =>
    have CA := Lib.hid (C.good s A w1 (hG.on B1.out) (by omega) hA)
    cases hB : lexS t.data.toList with
    | err er a =>
      obtain ⟨h1, -⟩ := lexS_err hB
      clear hA
      go_wp2_with fail
      refine (CA.out).mono ?_
      rintro e w2 ⟨⟨q, c, rfl, -⟩, hb2⟩
      have B2 := Lib.hid (B1.out.trans (hb2.mono hs1))
      have hs2 := B2.out.size
      have CB := Lib.hid (C.bad t er a w2 (hG.on B2.out) (by omega) hB)
      clear hb2 CA hB
      go_wp2_with fail
      refine (CB.out).mono ?_
      rintro e w3 ⟨⟨q3, c3, rfl⟩, hb3⟩
      have B3 := Lib.hid (B2.out.trans (hb3.mono hs2))
      have hs3 := B3.out.size
      clear hb3 CB
      go_wp2_with fail
      rw [← HR.out]
      refine (lex_any C R w3 (hG.on B3.out) (by omega)).mono ?_
      rintro e w4 ⟨⟨q4, n4, c4, er4, a4, rfl⟩, hb4⟩
      have B4 := Lib.hid (B3.out.trans (hb4.mono hs3))
      clear hb4
      rcases h1 with rfl | rfl
      · go_wp2_with fail
        go_ret
        exact ⟨rfl, B4.out⟩
      · go_wp2_with fail
        go_ret
        exact ⟨rfl, B4.out⟩
    | ok B =>
      have P := Lib.hid (lexL_places _ 0 0 B (lexS_ok hB).2)
      obtain ⟨T1, T2⟩ := lexS_two hA hB (by rw [HL.out.1]; omega) (by rw [HL.out.2]; omega)
      rw [← ER.out] at T1 T2
      have mA := lexL_most _ 0 0 A (by omega) (lexS_ok hA).2
      have mB := lexL_most _ 0 0 B (by omega) (lexS_ok hB).2
      have TT := Lib.hid (And.intro T1 T2)
      have hBh := Lib.hid hB
      clear hA hB T1 T2
      go_wp2_with fail
      refine (CA.out).mono ?_
      rintro e w2 ⟨⟨q, c, rfl, hOA⟩, hb2⟩
      obtain ⟨-, ka1, ka2, arA⟩ := hOA.toks
      have AA := Lib.hid arA
      have B2 := Lib.hid (B1.out.trans (hb2.mono hs1))
      have hs2 := B2.out.size
      have CB := Lib.hid (C.good t B w2 (hG.on B2.out) (by omega) hBh.out)
      clear hb2 CA hBh hOA arA
      go_wp2_with fail
      refine (CB.out).mono ?_
      rintro e w3 ⟨⟨q3, c3, rfl, hOB⟩, hb3⟩
      obtain ⟨-, kb1, kb2, arB⟩ := hOB.toks
      have AB := Lib.hid arB
      have B23 := Lib.hid hb3
      have B3 := Lib.hid (B2.out.trans (hb3.mono hs2))
      have hs3 := B3.out.size
      clear hb3 CB hOB arB
      go_wp2_with fail
      rw [← HR.out]
      by_cases h400 : 400 < A.length + B.length
      · obtain ⟨a, ha⟩ := TT.out.2 h400
        have CC := Lib.hid (C.bad R 5 a w3 (hG.on B3.out) (by omega) ha)
        clear ha
        refine (CC.out).mono ?_
        rintro e w4 ⟨⟨q4, c4, rfl⟩, hb4⟩
        have B4 := Lib.hid (B3.out.trans (hb4.mono hs3))
        have h4 : ((A.length : Int) + (B.length : Int)) > 400 := by omega
        clear hb4 CC
        go_wp2_with fail
        go_ret
        exact ⟨rfl, B4.out⟩
      · have hok := TT.out.1 (by omega)
        obtain ⟨L, hL⟩ : ∃ L, L = A ++ B.map (Tok.shift (s.data.toList.length + 1)) := ⟨_, rfl⟩
        rw [← hL] at hok
        have hLl : L.length = A.length + B.length := by rw [hL, List.length_append, List.length_map]
        have HH := Lib.hid hL
        have CC := Lib.hid (C.good R L w3 (hG.on B3.out) (by omega) hok)
        clear hok hL TT
        refine (CC.out).mono ?_
        rintro e w4 ⟨⟨q4, c4, rfl, hOC⟩, hb4⟩
        obtain ⟨-, kc1, kc2, arC⟩ := hOC.toks
        have AC := Lib.hid arC
        have B4 := Lib.hid (B3.out.trans (hb4.mono hs3))
        have hs4 := B4.out.size
        have B34 := Lib.hid hb4
        have B24 := Lib.hid (B23.out.trans (hb4.mono B23.out.size))
        have h4 : ¬ ((A.length : Int) + (B.length : Int)) > 400 := by omega
        have h5 : (L.length : Int) = (A.length : Int) + (B.length : Int) := by omega
        clear hb4 CC hOC arC
        go_wp2_with fail
        go_loopw [15] (fun vi wr => ∃ i : Nat, vi = .int .i64 i ∧ i ≤ L.length ∧ Hid (Below w4.heap.size w4 wr)) (fun vi _ => L.length - (intOf vi).toNat)
        case atStart => exact ⟨0, rfl, Nat.zero_le _, Below.refl _ _⟩
        case round =>
          obtain ⟨i, rfl, hi, HW⟩ := hrel
          have BW2 := Lib.hid (B24.out.trans (HW.out.mono B24.out.size))
          have BW3 := Lib.hid (B34.out.trans (HW.out.mono B34.out.size))
          obtain ⟨V, hV⟩ : ∃ V, V = wr := ⟨_, rfl⟩
          subst hV
          by_cases hlt : i < L.length
          · obtain ⟨u, hu⟩ : ∃ u, L[i]? = some u := ⟨_, List.getElem?_eq_getElem hlt⟩
            obtain ⟨g, off, rfl, -, hg, hcC⟩ := AC.out i hlt
            have x := hcC i u hu
            have x0 := (HW.out.cell (p := ⟨g, _, none⟩) hg).trans x.c0
            have x1 := (HW.out.cell (p := ⟨g, _, none⟩) hg).trans x.c1
            have x2 := (HW.out.cell (p := ⟨g, _, none⟩) hg).trans x.c2
            have x3 := (HW.out.cell (p := ⟨g, _, none⟩) hg).trans x.c3
            clear x hcC
            by_cases hiA : i < A.length
            · have hu2 : A[i]? = some u := by rw [← hu, HH.out, List.getElem?_append_left hiA]
              obtain ⟨g2, off2, rfl, -, hg2, hcA⟩ := AA.out i hiA
              have y := hcA i u hu2
              have y0 := (BW2.out.cell (p := ⟨g2, _, none⟩) hg2).trans y.c0
              have y1 := (BW2.out.cell (p := ⟨g2, _, none⟩) hg2).trans y.c1
              have y2 := (BW2.out.cell (p := ⟨g2, _, none⟩) hg2).trans y.c2
              have y3 := (BW2.out.cell (p := ⟨g2, _, none⟩) hg2).trans y.c3
              have HEQ := Lib.hid (Tryd.sameTok u.kd u.n u.at_ (bsB u.s))
              have hgt := Lib.hid Tryd.tokGuard
              clear y hcA hu hu2
              go_wp2_with fail
              obtain ⟨W, hW⟩ : ∃ W, W = V.alloc (.cells #[.int .i64 (u.kd : Int), .int .i64 (u.n : Int), .int .i64 (u.at_ : Int), .string (bsB u.s)] 32) := ⟨_, rfl⟩
              rw [← hW]
              obtain ⟨n0, n1, n2, n3, -⟩ := tokNew V u.kd u.n u.at_ (bsB u.s) 32
              rw [← hW] at n0 n1 n2 n3
              have hbW : Below V.heap.size V W := by rw [hW]; exact ext_alloc (ext_refl _) _
              have hg2V : g2 < V.heap.size := Nat.lt_of_lt_of_le hg2 BW2.out.size
              replace y0 := (hbW.cell (p := ⟨g2, _, none⟩) hg2V).trans y0
              replace y1 := (hbW.cell (p := ⟨g2, _, none⟩) hg2V).trans y1
              replace y2 := (hbW.cell (p := ⟨g2, _, none⟩) hg2V).trans y2
              replace y3 := (hbW.cell (p := ⟨g2, _, none⟩) hg2V).trans y3
              have HbW := Lib.hid hbW
              clear hbW hW x0 x1 x2 x3
              refine wp_region_quiet_lit (by kernel_rfl) (by kernel_rfl) ?_
              iterate 10 (go_big_quiet_step (fail))
              go_big_quiet_want
              refine quiet_neq _ _ 32 _ rfl _ _ _ rfl rfl hgt.out HEQ.out ?_
              go_simp
              go_big_quiet_on
              repeat (go_big_quiet_step (fail))
              refine wpQuiet_nil ?_
              intro _ hw'
              obtain ⟨nq, hw''⟩ := hw'
              subst hw''
              clear n0 n1 n2 n3 y0 y1 y2 y3
              go_wp2_with fail
              go_roundw
              case rel => exact ⟨i + 1, by go_num, hlt, HW.out.trans (((ext_drewN HbW.out nq)).mono HW.out.size)⟩
              case measure => simp [intOf] <;> omega
            · obtain ⟨j, hij⟩ : ∃ j, i = A.length + j := ⟨i - A.length, by omega⟩
              have gi1 : ¬ (i : Int) < (A.length : Int) := by omega
              have gi2 : (i : Int) ≥ (A.length : Int) := by omega
              have gi3 : (i : Int) - (A.length : Int) = (j : Int) := by omega
              have hjB : j < B.length := by omega
              obtain ⟨b, hb⟩ : ∃ b, B[j]? = some b := ⟨_, List.getElem?_eq_getElem hjB⟩
              have eu : u = b.shift (s.size + 1) := by
                rw [HH.out, hij, List.getElem?_append_right (by omega), Nat.add_sub_cancel_left, List.getElem?_map, hb, HL.out.1] at hu
                cases hu
                rfl
              have hat : b.at_ < 900 + 1 := by
                obtain ⟨k, b', p1, p2, -⟩ := P.out.1 b (List.mem_of_getElem? hb)
                have := (List.getElem?_eq_some_iff.1 p2).1
                rw [HL.out.2] at this
                omega
              have e2 : (u.at_ : Int) - (s.size : Int) - 1 = (b.at_ : Int) := by rw [eu]; show ((b.at_ + (s.size + 1) : Nat) : Int) - _ - 1 = _; omega
              have hua : (u.at_ : Int) ≤ 2000 := by rw [eu]; show ((b.at_ + (s.size + 1) : Nat) : Int) ≤ _; omega
              have hua0 : 0 ≤ (u.at_ : Int) := Int.natCast_nonneg _
              have eu0 : (u.kd : Int) = b.kd := by rw [eu]; rfl
              have eu1 : (u.n : Int) = b.n := by rw [eu]; rfl
              have eu3 : u.s = b.s := by rw [eu]; rfl
              rw [eu0] at x0
              rw [eu1] at x1
              rw [eu3] at x3
              obtain ⟨z, hz⟩ : ∃ z : Int, z = (u.at_ : Int) := ⟨_, rfl⟩
              rw [← hz] at x2 e2 hua hua0
              obtain ⟨g3, off3, rfl, -, hg3, hcB⟩ := AB.out j hjB
              have y := hcB j b hb
              have y0 := (BW3.out.cell (p := ⟨g3, _, none⟩) hg3).trans y.c0
              have y1 := (BW3.out.cell (p := ⟨g3, _, none⟩) hg3).trans y.c1
              have y2 := (BW3.out.cell (p := ⟨g3, _, none⟩) hg3).trans y.c2
              have y3 := (BW3.out.cell (p := ⟨g3, _, none⟩) hg3).trans y.c3
              have HEQ := Lib.hid (Tryd.sameTok b.kd b.n b.at_ (bsB b.s))
              have hgt := Lib.hid Tryd.tokGuard
              have E2 := Lib.hid e2
              clear y hcB hu hb eu eu0 eu1 eu3 hz e2 hij
              go_wp2_with fail
              obtain ⟨W, hW⟩ : ∃ W, W = V.alloc (.cells #[.int .i64 (b.kd : Int), .int .i64 (b.n : Int), .int .i64 z, .string (bsB b.s)] 32) := ⟨_, rfl⟩
              rw [← hW]
              obtain ⟨n0, n1, n2, n3, n4⟩ := tokNew V b.kd b.n z (bsB b.s) 32
              rw [← hW] at n0 n1 n2 n3 n4
              have hbW : Below V.heap.size V W := by rw [hW]; exact ext_alloc (ext_refl _) _
              have hg3V : g3 < V.heap.size := Nat.lt_of_lt_of_le hg3 BW3.out.size
              have HbW := Lib.hid hbW
              clear hbW hW x0 x1 x2 x3
              go_big_quiet (fail)
              have e2 := E2.out
              go_wp2_with fail
              obtain ⟨U, hU⟩ : ∃ U, U = (W.drewN nq).setCell ⟨V.heap.size, 2, none⟩ (.int .i64 (b.at_ : Int)) := ⟨_, rfl⟩
              rw [← hU]
              have m0 : U.cell? ⟨V.heap.size, 0, none⟩ = some (.int .i64 (b.kd : Int)) := by rw [hU]; simp [go_sem, n0]
              have m1 : U.cell? ⟨V.heap.size, 1, none⟩ = some (.int .i64 (b.n : Int)) := by rw [hU]; simp [go_sem, n1]
              have m2 : U.cell? ⟨V.heap.size, 2, none⟩ = some (.int .i64 (b.at_ : Int)) := by rw [hU]; simp [go_sem, n2]
              have m3 : U.cell? ⟨V.heap.size, 3, none⟩ = some (.string (bsB b.s)) := by rw [hU]; simp [go_sem, n3]
              have hbU : Below V.heap.size V U := by rw [hU]; exact ext_set (Nat.le_refl _) _ (ext_drewN HbW.out nq)
              replace y0 := (hbU.cell (p := ⟨g3, _, none⟩) hg3V).trans y0
              replace y1 := (hbU.cell (p := ⟨g3, _, none⟩) hg3V).trans y1
              replace y2 := (hbU.cell (p := ⟨g3, _, none⟩) hg3V).trans y2
              replace y3 := (hbU.cell (p := ⟨g3, _, none⟩) hg3V).trans y3
              have HbU := Lib.hid hbU
              clear hbU hU n0 n1 n2 n3 n4 HbW e2
              refine wp_region_quiet_lit (by kernel_rfl) (by kernel_rfl) ?_
              iterate 8 (go_big_quiet_step (fail))
              go_big_quiet_want
              refine quiet_neq _ _ 32 _ rfl _ _ _ rfl rfl hgt.out HEQ.out ?_
              go_simp
              go_big_quiet_on
              repeat (go_big_quiet_step (fail))
              refine wpQuiet_nil ?_
              intro _ hw'
              obtain ⟨nr, hw''⟩ := hw'
              subst hw''
              clear m0 m1 m2 m3 y0 y1 y2 y3
              go_wp2_with fail
              go_roundw
              case rel => exact ⟨i + 1, by go_num, hlt, HW.out.trans (((ext_drewN HbU.out nr)).mono HW.out.size)⟩
              case measure => simp [intOf] <;> omega
          · obtain rfl : i = L.length := by omega
            have BE := Lib.hid (B4.out.trans (HW.out.mono hs4))
            go_wp2_with fail
            go_ret
            exact ⟨rfl, BE.out⟩

/- FRAME -/

set_option maxRecDepth 100000 in
theorem lexTwo_lifted (C : LexC) (os : Os) (started : os.Started) (H : Type) (enc : TypeId × Value → H) :
    ReturnsInHanded {} Tryd.checked os 7 .any (fun w args => (Rows.lexTwoSpec.pre enc Tryd.prog Tryd.f7 Rows.lexTwoRow.domain false w args ∧ laidMetH Tryd.prog laidVars w) ∧ sizedMet enc Tryd.prog Tryd.f7 (OpenSpec.ofChange Rows.lexTwoSpec) false w args) (Rows.lexTwoSpec.post enc Tryd.prog Tryd.f7 false true false false) := by
  refine returnsInHanded_of_change_and (C := Tryd.checked) (X := fun w _ => laidMetH Tryd.prog laidVars w) (fun _ _ _ hh h => h.of_heap hh) Tryd.own started (by kernel_rfl) Tryd.func7
    (ChangeSpec.witness_shaped (enc := enc) (C := Tryd.checked) (os := os) (X := fun w _ => laidMetH Tryd.prog laidVars w) false (World.laidAll Tryd.prog os laidVars) #[.string ⟨#[]⟩, .string ⟨#[]⟩] 8 (World.laidAll_os _ _ _)
      (wit_shaped os _) (by kernel_rfl) (by kernel_rfl) (by kernel_rfl) (wit_met os _)) ?_
  intro W base args ds gs before hval0 hW _ hsz hL _
  have hval : ∀ (j : Nat) t v, Tryd.f7.params[j]? = some t → args[j]? = some v → Value.okWide Tryd.prog W .any base t v := hval0
  have hW' := hW
  obtain ⟨p, q, hA0, hV, rfl, _, _⟩ := hW
  have hA : DataW.TrodAll enc Tryd.prog W 0 (fun _ => true) true Tryd.f7.params.toList args.toList ds p := hA0
  rw [Tryd.params7] at hA hval hsz
  obtain ⟨v0, v1, d0, d1, p0, p1, rfl, rfl, rfl, h0, h1⟩ := trodAll_two hA
  obtain ⟨s0, rfl, zs0⟩ := open_word6 (hval 0 9 v0 rfl rfl) h0 (fun n hn => of_decide_eq_true (List.all_eq_true.1 hsz _ (DataW.weights_mem_each (j := 0) (t := 9) rfl rfl n hn)))
  obtain ⟨s1, rfl, zs1⟩ := open_word6 (hval 1 9 v1 rfl rfl) h1 (fun n hn => of_decide_eq_true (List.all_eq_true.1 hsz _ (DataW.weights_mem_each (j := 1) (t := 9) rfl rfl n hn)))
  have hG := GV.of_laid hL
  clear hA0 hval0 hL
  refine (two_walk C s0 s1 W hG (by unfold reachBytes at zs0; omega) (by unfold reachBytes at zs1; omega)).mono fun e W' ⟨he, hb⟩ => ⟨_, he, post_law rfl hW' rfl rfl ?_ hb⟩
  intro t ht
  rw [Tryd.params7] at ht
  simp only [List.mem_cons, List.not_mem_nil, or_false] at ht
  rcases ht with rfl | rfl <;> exact ⟨by kernel_rfl, of_decide_eq_true (by kernel_rfl)⟩

theorem lexTwo_holds (C : LexC) : Rows.LexTwoSaid :=
  OpenClaim.holds_of_wide 7 Tryd.f7 rfl rfl rfl rfl rfl rfl rfl ⟨rfl, rfl, rfl, rfl, rfl⟩ rfl rfl rfl rfl rfl (by kernel_rfl) Tryd.func7 (by kernel_rfl)
    (of_decide_eq_true (by kernel_rfl)) (by unfold Func.isWrapper; rw [if_neg (of_decide_eq_false (by kernel_rfl))]; exact ⟨rfl, rfl⟩)
    (fun os started H enc _ => lexTwo_lifted C os started H enc)

set_option maxRecDepth 100000 in
theorem lexTwo_card (C : LexC) : Rows.LexTwoCardSaid :=
  Claim7.holds_tied_plain_at .later [] Rows.lexTwoCard.laidKinds true Rows.lexTwoCard.stood.harness true (lexTwo_holds C) (fun _ h => by cases h) (by kernel_rfl) (fun _ h => by cases h) lexTwo_row_tie rfl ⟨rfl, rfl⟩ (by kernel_rfl) rfl
    (fun f fn hf hfn => by
      obtain rfl : f = 7 := Option.some.inj ((show Tryd.prog.funcNamed "weathercock/weathercocklaw07.LexTwo" = some 7 by kernel_rfl).symm.trans hf) |>.symm
      obtain rfl : fn = Tryd.f7 := (Option.some.inj (Tryd.func7.symm.trans hfn)).symm
      exact ⟨by kernel_rfl, fun j t ht => by
        rw [Tryd.params7] at ht
        have hm : t ∈ [9, 9] := by simpa using Array.mem_of_getElem? ht
        have hall : ([9, 9].all fun u => !Tryd.prog.wantsStandIn u) = true := by kernel_rfl
        exact (show Tryd.prog.wantsStandIn t = false by simpa using List.all_eq_true.1 hall t hm)⟩)
    (by kernel_rfl)

#print axioms lexTwo_card

end Go.Proofs.YtejfjlbnehdgnaaDoor
