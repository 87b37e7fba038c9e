/- LexBlanks: with blanks ahead and behind, the tokens are the same, as much later: the law answers true. (Over the contract of Lex.) -/
import Derived.Test.YtejfjlbnehdgnaaDoorLxE
import Derived.Test.YtejfjlbnehdgnaaDoorWord
import Derived.Test.YtejfjlbnehdgnaaDoorLcL
namespace Go.Proofs.YtejfjlbnehdgnaaDoor
open Go.ChangeShapes Go.WideShapes Go.ChangeAt Go.RowKit Go.Joins
set_option maxRecDepth 100000

/-- Blanks: a space and a new line, in turn. -/
def blanks : Nat → Bs
  | 0 => []
  | m + 1 => blanks m ++ [if m % 2 = 0 then 32 else 10]
theorem blanks_len (m : Nat) : (blanks m).length = m := by
  induction m with
  | zero => rfl
  | succ m ih => rw [blanks, List.length_append, ih]; rfl
theorem blanks_all (m : Nat) : ∀ b ∈ blanks m, isBlank b = true := by
  induction m with
  | zero => intro b hb; cases hb
  | succ m ih =>
    intro b hb
    rw [blanks] at hb
    rcases List.mem_append.1 hb with hb | hb
    · exact ih b hb
    · rw [List.mem_singleton] at hb
      rw [hb]
      split <;> rfl
theorem lexS_blanks {l : Bs} {m : Nat} (hl : l.length ≤ 1900) (hm : m < 50) :
    (∀ L, lexS l = .ok L → lexS (blanks m ++ l ++ blanks m) = .ok (L.map (Tok.shift m))) ∧
    (∀ e a, lexS l = .err e a → lexS (blanks m ++ l ++ blanks m) = .err e (a + m) ∨ (a = l.length ∧ lexS (blanks m ++ l ++ blanks m) = .err e (l.length + 2 * m))) := by
  have e0 : lexS l = lexL l 0 0 := by unfold lexS; rw [if_neg (by omega)]
  have e1 : lexS (blanks m ++ l ++ blanks m) = (lexL (l ++ blanks m) 0 0).shift m := by
    unfold lexS
    rw [if_neg (by rw [List.length_append, List.length_append, blanks_len]; omega), List.append_assoc, lexL_ahead _ _ _ _ (blanks_all m), blanks_len, lexL_shift]
  rw [e0, e1]
  cases hb : blanks m with
  | nil =>
    have : m = 0 := by rw [← blanks_len m, hb]; rfl
    subst this
    rw [List.append_nil]
    refine ⟨fun L hL => by rw [hL]; rfl, fun e a he => by rw [he]; exact .inl rfl⟩
  | cons c bl =>
    have hlen : bl.length + 1 = m := by rw [← blanks_len m, hb]; rfl
    have hall := blanks_all m
    rw [hb] at hall
    obtain ⟨i1, i2⟩ := lexL_behind (hall c List.mem_cons_self) (fun b h => hall b (List.mem_cons_of_mem _ h)) l 0 0
    refine ⟨fun L hL => by rw [i1 L hL]; rfl, fun e a he => ?_⟩
    rcases i2 e a he with h | ⟨h1, h2⟩
    · rw [h]; exact .inl rfl
    · rw [h2]
      refine .inr ⟨by omega, ?_⟩
      show Res.err e (a + (bl.length + 1) + m) = _
      rw [h1, hlen]
      exact congrArg _ (by omega)
theorem bsB_blank (m : Nat) : bsB (blanks m) ++ bsB [if m % 2 = 0 then 32 else 10] = bsB (blanks (m + 1)) := bsB_add _ _

set_option maxHeartbeats 4000000 in
theorem blanks_walk (C : LexC) (s : ByteArray) (z : Int) (w : World) (hG : GV w) (hs : s.size ≤ 9223372036854775807) (hz : inR z = true) :
    Calls Tryd.prog 5 #[.string s, .int .i64 z] w fun e w' => e = .returned (.bool true) ∧ Below w.heap.size w w' := by
  have hz1 : -9223372036854775808 ≤ z ∧ z ≤ 9223372036854775807 := of_decide_eq_true hz
  clear hz
  obtain ⟨hz2, hz3⟩ := hz1
  have hsl : s.data.toList.length = s.size := Array.length_toList
  go_enter Tryd.func5, Tryd.ntmps5
  go_wp2_with fail
  refine (ex7_any C _ hG).mono ?_
  rintro e w1 ⟨rfl, hb1⟩
  have hs1 := hb1.size
  have B1 := Lib.hid hb1
  clear hb1
  by_cases hlong : s.size > 1900
  · have z1 : (s.size : Int) > 1900 := by omega
    go_wp2_with fail
    go_ret
    exact ⟨rfl, B1.out⟩
  have z1 : ¬ (s.size : Int) > 1900 := by omega
  by_cases hneg : z < 0
  · obtain ⟨m, hm⟩ : ∃ m : Nat, -(z + 1).tmod 50 = (m : Int) ∧ m < 50 := ⟨(-(z + 1)).toNat % 50, by
      have e : z + 1 = -(((-(z + 1)).toNat : Nat) : Int) := by omega
      rw [e, Int.neg_tmod, Int.neg_neg, Int.neg_neg]
      exact ⟨rfl, Nat.mod_lt _ (by decide)⟩⟩
    obtain ⟨hm, hm50⟩ := hm
    go_wp2_with fail
    have HM := Lib.hid hm50
    clear hm50 hm hneg
    go_loopw [7, 6] (fun vi vq wr => ∃ i : Nat, vi = .int .i64 i ∧ i ≤ m ∧ vq = .string (bsB (blanks i)) ∧ wr = w1) (fun vi _ _ => m - (intOf vi).toNat)
    case atStart => exact ⟨0, rfl, Nat.zero_le _, rfl, rfl⟩
    case round =>
      obtain ⟨i, rfl, hi, rfl, rfl⟩ := hrel
      obtain ⟨Q, hQ⟩ : ∃ Q, Q = bsB (blanks i) := ⟨_, rfl⟩
      have hQs : Q.size = i := by rw [hQ, bsB_len, blanks_len]
      have hm50 := HM.out
      by_cases hlt : i < m
      · have e3 := bsB_blank i
        rw [← hQ] at e3
        have g0 : ¬ 9223372036854775807 < Q.size + 1 := by omega
        have g1 : ¬ 9223372036854775807 < i + 1 := by omega
        rw [← hQ]
        by_cases hev : i % 2 = 0
        · have e2 : (i : Int) % 2 = 0 := by omega
          have e4 : Q ++ ByteArray.extract ⟨#[32, 10]⟩ 0 1 = bsB (blanks (i + 1)) := by rw [if_pos hev] at e3; exact e3
          have HE := Lib.hid e4
          clear e3 e4 hQ hev
          go_wp2_with fail
          go_roundw
          case rel => exact ⟨i + 1, by go_num, hlt, by rw [HE.out], trivial⟩
          case measure => simp [intOf] <;> omega
        · have e2 : (i : Int) % 2 = 1 := by omega
          have e4 : Q ++ ByteArray.extract ⟨#[32, 10]⟩ 1 2 = bsB (blanks (i + 1)) := by rw [if_neg hev] at e3; exact e3
          have HE := Lib.hid e4
          clear e3 e4 hQ hev
          go_wp2_with fail
          go_roundw
          case rel => exact ⟨i + 1, by go_num, hlt, by rw [HE.out], trivial⟩
          case measure => simp [intOf] <;> omega
      · obtain rfl : i = m := by omega
        rw [← hQ]
        obtain ⟨T1, T2⟩ := lexS_blanks (l := s.data.toList) (m := i) (by omega) hm50
        obtain ⟨R, hR⟩ : ∃ R, R = Q ++ s ++ Q := ⟨_, rfl⟩
        have eR : R.data.toList = blanks i ++ s.data.toList ++ blanks i := by rw [hR, hQ]; simp [ByteArray.data_append]
        have hRs : R.size ≤ 2000 := by rw [hR, ByteArray.size_append, ByteArray.size_append]; omega
        have g1 : ¬ 9223372036854775807 < Q.size + s.size := by omega
        have g2 : ¬ 9223372036854775807 < Q.size + s.size + Q.size := by omega
        have g3 : ¬ 9223372036854775807 < i + s.size := by omega
        have g4 : ¬ 9223372036854775807 < i + s.size + i := by omega
        rw [← eR] at T1 T2
        have HR := Lib.hid hR
        have TT := Lib.hid (And.intro T1 T2)
        have HL := Lib.hid hsl
        clear hQ eR hR T1 T2 hsl hlt hi
        cases hA : lexS s.data.toList with
        | err er a =>
          obtain ⟨h1, ha⟩ := lexS_err hA
          rw [HL.out] at ha
          have CA := Lib.hid (C.bad s er a wr (hG.on B1.out) (by omega) hA)
          obtain ⟨k, hk, hk2⟩ : ∃ k, lexS R.data.toList = .err er k ∧ (k = a + i ∨ (a = s.size ∧ k = s.size + 2 * i)) := by
            rcases TT.out.2 er a hA with h | ⟨h2, h3⟩
            · exact ⟨_, h, .inl rfl⟩
            · rw [HL.out] at h2 h3
              exact ⟨_, h3, .inr ⟨h2, rfl⟩⟩
          have HK := Lib.hid hk
          have HK2 := Lib.hid hk2
          clear hk hk2 hA TT
          go_wp2_with fail
          refine (CA.out).mono ?_
          rintro e w2 ⟨⟨q2, c2, rfl⟩, hb2⟩
          have B2 := Lib.hid (B1.out.trans (hb2.mono hs1))
          have hs2 := B2.out.size
          have CB := Lib.hid (C.bad R er k w2 (hG.on B2.out) (by omega) HK.out)
          clear hb2 CA
          go_wp2_with fail
          rw [← HR.out]
          refine (CB.out).mono ?_
          rintro e w3 ⟨⟨q3, c3, rfl⟩, hb3⟩
          have B3 := Lib.hid (B2.out.trans (hb3.mono hs2))
          clear hb3 CB HK
          have h5 : ((er : Int) == 0) = false := by rw [beq_eq_false_iff_ne]; rcases h1 with rfl | rfl <;> decide
          clear h1
          by_cases hka : k = a + i
          · have h6 : ((k : Int) == (a : Int) + (i : Int)) = true := by rw [beq_iff_eq]; omega
            clear hka HK2
            go_wp2_with fail
            go_ret
            exact ⟨rfl, B3.out⟩
          · have h6 : ((k : Int) == (a : Int) + (i : Int)) = false := by rw [beq_eq_false_iff_ne]; omega
            obtain ⟨h7, h8⟩ : a = s.size ∧ k = s.size + 2 * i := by
              rcases HK2.out with h | h
              · exact absurd h hka
              · exact h
            have h9 : ((a : Int) == (s.size : Int)) = true := by rw [beq_iff_eq]; omega
            have h10 : ((k : Int) == (s.size : Int) + 2 * (i : Int)) = true := by rw [beq_iff_eq]; omega
            clear hka HK2 h7 h8
            go_wp2_with fail
            go_ret
            exact ⟨rfl, B3.out⟩
        | ok L =>
          have P := Lib.hid (lexL_places _ 0 0 L (lexS_ok hA).2)
          have k400 := lexL_most _ 0 0 L (by omega) (lexS_ok hA).2
          have CA := Lib.hid (C.good s L wr (hG.on B1.out) (by omega) hA)
          have HK := Lib.hid (TT.out.1 L hA)
          clear hA TT
          go_wp2_with fail
          refine (CA.out).mono ?_
          rintro e w2 ⟨⟨q2, c2, rfl, hOA⟩, hb2⟩
          obtain ⟨-, ka1, ka2, arA⟩ := hOA.toks
          have AA := Lib.hid arA
          have B2 := Lib.hid (B1.out.trans (hb2.mono hs1))
          have hs2 := B2.out.size
          have CB := Lib.hid (C.good R _ w2 (hG.on B2.out) (by omega) HK.out)
          clear hb2 CA hOA arA
          go_wp2_with fail
          rw [← HR.out]
          refine (CB.out).mono ?_
          rintro e w3 ⟨⟨q3, c3, rfl, hOB⟩, hb3⟩
          obtain ⟨-, kb1, kb2, arB⟩ := hOB.toks
          have AB := Lib.hid arB
          have B3 := Lib.hid (B2.out.trans (hb3.mono hs2))
          have hs3 := B3.out.size
          have B23 := Lib.hid hb3
          rw [List.length_map] at kb1
          rw [List.length_map]
          clear hb3 CB hOB arB HK
          go_wp2_with fail
          go_loopw [14] (fun vi wr => ∃ j : Nat, vi = .int .i64 j ∧ j ≤ L.length ∧ Hid (Below w3.heap.size w3 wr)) (fun vi _ => L.length - (intOf vi).toNat)
          case atStart => exact ⟨0, rfl, Nat.zero_le _, Below.refl _ _⟩
          case round =>
            obtain ⟨j, rfl, hj, HW⟩ := hrel
            have BW2 := Lib.hid (B23.out.trans (HW.out.mono B23.out.size))
            obtain ⟨V, hV⟩ : ∃ V, V = wr := ⟨_, rfl⟩
            rw [← hV] at HW BW2
            rw [← hV]
            clear hV
            by_cases hlt : j < L.length
            · obtain ⟨u, hu⟩ : ∃ u, L[j]? = some u := ⟨_, List.getElem?_eq_getElem hlt⟩
              have hu2 : (L.map (Tok.shift i))[j]? = some (u.shift i) := by rw [List.getElem?_map, hu]; rfl
              obtain ⟨ga, offa, rfl, -, hga, hcA⟩ := AA.out j hlt
              obtain ⟨gb, offb, rfl, -, hgb, hcB⟩ := AB.out j (by rw [List.length_map]; exact hlt)
              have hat : (u.at_ : Int) ≤ 2000 := by
                obtain ⟨k, b', p1, p2, -⟩ := P.out.1 u (List.mem_of_getElem? hu)
                have := (List.getElem?_eq_some_iff.1 p2).1
                rw [HL.out] at this
                omega
              have x := hcA j u hu
              have y := hcB j _ hu2
              have x0 := (BW2.out.cell (p := ⟨ga, _, none⟩) hga).trans x.c0
              have x1 := (BW2.out.cell (p := ⟨ga, _, none⟩) hga).trans x.c1
              have x2 := (BW2.out.cell (p := ⟨ga, _, none⟩) hga).trans x.c2
              have x3 := (BW2.out.cell (p := ⟨ga, _, none⟩) hga).trans x.c3
              have y0 : V.cell? _ = some (.int .i64 (u.kd : Int)) := (HW.out.cell (p := ⟨gb, _, none⟩) hgb).trans y.c0
              have y1 : V.cell? _ = some (.int .i64 (u.n : Int)) := (HW.out.cell (p := ⟨gb, _, none⟩) hgb).trans y.c1
              have y2 : V.cell? _ = some (.int .i64 ((u.at_ + i : Nat) : Int)) := (HW.out.cell (p := ⟨gb, _, none⟩) hgb).trans y.c2
              have y3 : V.cell? _ = some (.string (bsB u.s)) := (HW.out.cell (p := ⟨gb, _, none⟩) hgb).trans y.c3
              have hcast : (u.at_ : Int) + (i : Int) = ((u.at_ + i : Nat) : Int) := rfl
              obtain ⟨zz, hzz⟩ : ∃ zz : Int, zz = ((u.at_ + i : Nat) : Int) := ⟨_, rfl⟩
              rw [← hzz] at y2 hcast
              have HEQ := Lib.hid (Tryd.sameTok u.kd u.n zz (bsB u.s))
              have hgt := Lib.hid Tryd.tokGuard
              have HC := Lib.hid hcast
              clear x y hcA hcB hu hu2 hcast hzz
              go_wp2_with fail
              rw [HC.out]
              obtain ⟨W, hW⟩ : ∃ W, W = V.alloc (.cells #[.int .i64 (u.kd : Int), .int .i64 (u.n : Int), .int .i64 zz, .string (bsB u.s)] 32) := ⟨_, rfl⟩
              rw [← hW]
              obtain ⟨n0, n1, n2, n3, -⟩ := tokNew V u.kd u.n zz (bsB u.s) 32
              rw [← hW] at n0 n1 n2 n3
              have hbW : Below V.heap.size V W := by rw [hW]; exact ext_alloc (ext_refl _) _
              have hgV : gb < V.heap.size := Nat.lt_of_lt_of_le hgb HW.out.size
              replace y0 := (hbW.cell (p := ⟨gb, _, none⟩) hgV).trans y0
              replace y1 := (hbW.cell (p := ⟨gb, _, none⟩) hgV).trans y1
              replace y2 := (hbW.cell (p := ⟨gb, _, none⟩) hgV).trans y2
              replace y3 := (hbW.cell (p := ⟨gb, _, none⟩) hgV).trans y3
              have HbW := Lib.hid hbW
              clear hbW hW x0 x1 x2 x3 HC
              refine wp_region_quiet_lit (by kernel_rfl) (by kernel_rfl) ?_
              iterate 5 (go_big_quiet_step (fail))
              go_big_quiet_want
              refine quiet_neq _ _ 32 _ rfl _ _ _ rfl rfl hgt.out HEQ.out ?_
              go_simp
              go_big_quiet_on
              repeat (go_big_quiet_step (fail))
              refine wpQuiet_nil ?_
              intro _ hw'
              obtain ⟨nr, hw''⟩ := hw'
              subst hw''
              clear n0 n1 n2 n3 y0 y1 y2 y3
              go_wp2_with fail
              go_roundw
              case rel => exact ⟨j + 1, by go_num, hlt, HW.out.trans ((ext_drewN HbW.out nr).mono HW.out.size)⟩
              case measure => simp [intOf] <;> omega
            · obtain rfl : j = L.length := by omega
              have BE := Lib.hid (B3.out.trans (HW.out.mono hs3))
              go_wp2_with fail
              go_ret
              exact ⟨rfl, BE.out⟩
  · obtain ⟨m, hm⟩ : ∃ m : Nat, z % 50 = (m : Int) ∧ m < 50 := ⟨(z % 50).toNat, by omega⟩
    obtain ⟨hm, hm50⟩ := hm
    go_wp2_with fail
    rw [hm]
    have HM := Lib.hid hm50
    clear hm50 hm hneg
    go_loopw [7, 6] (fun vi vq wr => ∃ i : Nat, vi = .int .i64 i ∧ i ≤ m ∧ vq = .string (bsB (blanks i)) ∧ wr = w1) (fun vi _ _ => m - (intOf vi).toNat)
    case atStart => exact ⟨0, rfl, Nat.zero_le _, rfl, rfl⟩
    case round =>
      obtain ⟨i, rfl, hi, rfl, rfl⟩ := hrel
      obtain ⟨Q, hQ⟩ : ∃ Q, Q = bsB (blanks i) := ⟨_, rfl⟩
      have hQs : Q.size = i := by rw [hQ, bsB_len, blanks_len]
      have hm50 := HM.out
      by_cases hlt : i < m
      · have e3 := bsB_blank i
        rw [← hQ] at e3
        have g0 : ¬ 9223372036854775807 < Q.size + 1 := by omega
        have g1 : ¬ 9223372036854775807 < i + 1 := by omega
        rw [← hQ]
        by_cases hev : i % 2 = 0
        · have e2 : (i : Int) % 2 = 0 := by omega
          have e4 : Q ++ ByteArray.extract ⟨#[32, 10]⟩ 0 1 = bsB (blanks (i + 1)) := by rw [if_pos hev] at e3; exact e3
          have HE := Lib.hid e4
          clear e3 e4 hQ hev
          go_wp2_with fail
          go_roundw
          case rel => exact ⟨i + 1, by go_num, hlt, by rw [HE.out], trivial⟩
          case measure => simp [intOf] <;> omega
        · have e2 : (i : Int) % 2 = 1 := by omega
          have e4 : Q ++ ByteArray.extract ⟨#[32, 10]⟩ 1 2 = bsB (blanks (i + 1)) := by rw [if_neg hev] at e3; exact e3
          have HE := Lib.hid e4
          clear e3 e4 hQ hev
          go_wp2_with fail
          go_roundw
          case rel => exact ⟨i + 1, by go_num, hlt, by rw [HE.out], trivial⟩
          case measure => simp [intOf] <;> omega
      · obtain rfl : i = m := by omega
        rw [← hQ]
        obtain ⟨T1, T2⟩ := lexS_blanks (l := s.data.toList) (m := i) (by omega) hm50
        obtain ⟨R, hR⟩ : ∃ R, R = Q ++ s ++ Q := ⟨_, rfl⟩
        have eR : R.data.toList = blanks i ++ s.data.toList ++ blanks i := by rw [hR, hQ]; simp [ByteArray.data_append]
        have hRs : R.size ≤ 2000 := by rw [hR, ByteArray.size_append, ByteArray.size_append]; omega
        have g1 : ¬ 9223372036854775807 < Q.size + s.size := by omega
        have g2 : ¬ 9223372036854775807 < Q.size + s.size + Q.size := by omega
        have g3 : ¬ 9223372036854775807 < i + s.size := by omega
        have g4 : ¬ 9223372036854775807 < i + s.size + i := by omega
        rw [← eR] at T1 T2
        have HR := Lib.hid hR
        have TT := Lib.hid (And.intro T1 T2)
        have HL := Lib.hid hsl
        clear hQ eR hR T1 T2 hsl hlt hi
        cases hA : lexS s.data.toList with
        | err er a =>
          obtain ⟨h1, ha⟩ := lexS_err hA
          rw [HL.out] at ha
          have CA := Lib.hid (C.bad s er a wr (hG.on B1.out) (by omega) hA)
          obtain ⟨k, hk, hk2⟩ : ∃ k, lexS R.data.toList = .err er k ∧ (k = a + i ∨ (a = s.size ∧ k = s.size + 2 * i)) := by
            rcases TT.out.2 er a hA with h | ⟨h2, h3⟩
            · exact ⟨_, h, .inl rfl⟩
            · rw [HL.out] at h2 h3
              exact ⟨_, h3, .inr ⟨h2, rfl⟩⟩
          have HK := Lib.hid hk
          have HK2 := Lib.hid hk2
          clear hk hk2 hA TT
          go_wp2_with fail
          refine (CA.out).mono ?_
          rintro e w2 ⟨⟨q2, c2, rfl⟩, hb2⟩
          have B2 := Lib.hid (B1.out.trans (hb2.mono hs1))
          have hs2 := B2.out.size
          have CB := Lib.hid (C.bad R er k w2 (hG.on B2.out) (by omega) HK.out)
          clear hb2 CA
          go_wp2_with fail
          rw [← HR.out]
          refine (CB.out).mono ?_
          rintro e w3 ⟨⟨q3, c3, rfl⟩, hb3⟩
          have B3 := Lib.hid (B2.out.trans (hb3.mono hs2))
          clear hb3 CB HK
          have h5 : ((er : Int) == 0) = false := by rw [beq_eq_false_iff_ne]; rcases h1 with rfl | rfl <;> decide
          clear h1
          by_cases hka : k = a + i
          · have h6 : ((k : Int) == (a : Int) + (i : Int)) = true := by rw [beq_iff_eq]; omega
            clear hka HK2
            go_wp2_with fail
            go_ret
            exact ⟨rfl, B3.out⟩
          · have h6 : ((k : Int) == (a : Int) + (i : Int)) = false := by rw [beq_eq_false_iff_ne]; omega
            obtain ⟨h7, h8⟩ : a = s.size ∧ k = s.size + 2 * i := by
              rcases HK2.out with h | h
              · exact absurd h hka
              · exact h
            have h9 : ((a : Int) == (s.size : Int)) = true := by rw [beq_iff_eq]; omega
            have h10 : ((k : Int) == (s.size : Int) + 2 * (i : Int)) = true := by rw [beq_iff_eq]; omega
            clear hka HK2 h7 h8
            go_wp2_with fail
            go_ret
            exact ⟨rfl, B3.out⟩
        | ok L =>
          have P := Lib.hid (lexL_places _ 0 0 L (lexS_ok hA).2)
          have k400 := lexL_most _ 0 0 L (by omega) (lexS_ok hA).2
          have CA := Lib.hid (C.good s L wr (hG.on B1.out) (by omega) hA)
          have HK := Lib.hid (TT.out.1 L hA)
          clear hA TT
          go_wp2_with fail
          refine (CA.out).mono ?_
          rintro e w2 ⟨⟨q2, c2, rfl, hOA⟩, hb2⟩
          obtain ⟨-, ka1, ka2, arA⟩ := hOA.toks
          have AA := Lib.hid arA
          have B2 := Lib.hid (B1.out.trans (hb2.mono hs1))
          have hs2 := B2.out.size
          have CB := Lib.hid (C.good R _ w2 (hG.on B2.out) (by omega) HK.out)
          clear hb2 CA hOA arA
          go_wp2_with fail
          rw [← HR.out]
          refine (CB.out).mono ?_
          rintro e w3 ⟨⟨q3, c3, rfl, hOB⟩, hb3⟩
          obtain ⟨-, kb1, kb2, arB⟩ := hOB.toks
          have AB := Lib.hid arB
          have B3 := Lib.hid (B2.out.trans (hb3.mono hs2))
          have hs3 := B3.out.size
          have B23 := Lib.hid hb3
          rw [List.length_map] at kb1
          rw [List.length_map]
          clear hb3 CB hOB arB HK
          go_wp2_with fail
          go_loopw [14] (fun vi wr => ∃ j : Nat, vi = .int .i64 j ∧ j ≤ L.length ∧ Hid (Below w3.heap.size w3 wr)) (fun vi _ => L.length - (intOf vi).toNat)
          case atStart => exact ⟨0, rfl, Nat.zero_le _, Below.refl _ _⟩
          case round =>
            obtain ⟨j, rfl, hj, HW⟩ := hrel
            have BW2 := Lib.hid (B23.out.trans (HW.out.mono B23.out.size))
            obtain ⟨V, hV⟩ : ∃ V, V = wr := ⟨_, rfl⟩
            rw [← hV] at HW BW2
            rw [← hV]
            clear hV
            by_cases hlt : j < L.length
            · obtain ⟨u, hu⟩ : ∃ u, L[j]? = some u := ⟨_, List.getElem?_eq_getElem hlt⟩
              have hu2 : (L.map (Tok.shift i))[j]? = some (u.shift i) := by rw [List.getElem?_map, hu]; rfl
              obtain ⟨ga, offa, rfl, -, hga, hcA⟩ := AA.out j hlt
              obtain ⟨gb, offb, rfl, -, hgb, hcB⟩ := AB.out j (by rw [List.length_map]; exact hlt)
              have hat : (u.at_ : Int) ≤ 2000 := by
                obtain ⟨k, b', p1, p2, -⟩ := P.out.1 u (List.mem_of_getElem? hu)
                have := (List.getElem?_eq_some_iff.1 p2).1
                rw [HL.out] at this
                omega
              have x := hcA j u hu
              have y := hcB j _ hu2
              have x0 := (BW2.out.cell (p := ⟨ga, _, none⟩) hga).trans x.c0
              have x1 := (BW2.out.cell (p := ⟨ga, _, none⟩) hga).trans x.c1
              have x2 := (BW2.out.cell (p := ⟨ga, _, none⟩) hga).trans x.c2
              have x3 := (BW2.out.cell (p := ⟨ga, _, none⟩) hga).trans x.c3
              have y0 : V.cell? _ = some (.int .i64 (u.kd : Int)) := (HW.out.cell (p := ⟨gb, _, none⟩) hgb).trans y.c0
              have y1 : V.cell? _ = some (.int .i64 (u.n : Int)) := (HW.out.cell (p := ⟨gb, _, none⟩) hgb).trans y.c1
              have y2 : V.cell? _ = some (.int .i64 ((u.at_ + i : Nat) : Int)) := (HW.out.cell (p := ⟨gb, _, none⟩) hgb).trans y.c2
              have y3 : V.cell? _ = some (.string (bsB u.s)) := (HW.out.cell (p := ⟨gb, _, none⟩) hgb).trans y.c3
              have hcast : (u.at_ : Int) + (i : Int) = ((u.at_ + i : Nat) : Int) := rfl
              obtain ⟨zz, hzz⟩ : ∃ zz : Int, zz = ((u.at_ + i : Nat) : Int) := ⟨_, rfl⟩
              rw [← hzz] at y2 hcast
              have HEQ := Lib.hid (Tryd.sameTok u.kd u.n zz (bsB u.s))
              have hgt := Lib.hid Tryd.tokGuard
              have HC := Lib.hid hcast
              clear x y hcA hcB hu hu2 hcast hzz
              go_wp2_with fail
              rw [HC.out]
              obtain ⟨W, hW⟩ : ∃ W, W = V.alloc (.cells #[.int .i64 (u.kd : Int), .int .i64 (u.n : Int), .int .i64 zz, .string (bsB u.s)] 32) := ⟨_, rfl⟩
              rw [← hW]
              obtain ⟨n0, n1, n2, n3, -⟩ := tokNew V u.kd u.n zz (bsB u.s) 32
              rw [← hW] at n0 n1 n2 n3
              have hbW : Below V.heap.size V W := by rw [hW]; exact ext_alloc (ext_refl _) _
              have hgV : gb < V.heap.size := Nat.lt_of_lt_of_le hgb HW.out.size
              replace y0 := (hbW.cell (p := ⟨gb, _, none⟩) hgV).trans y0
              replace y1 := (hbW.cell (p := ⟨gb, _, none⟩) hgV).trans y1
              replace y2 := (hbW.cell (p := ⟨gb, _, none⟩) hgV).trans y2
              replace y3 := (hbW.cell (p := ⟨gb, _, none⟩) hgV).trans y3
              have HbW := Lib.hid hbW
              clear hbW hW x0 x1 x2 x3 HC
              refine wp_region_quiet_lit (by kernel_rfl) (by kernel_rfl) ?_
              iterate 5 (go_big_quiet_step (fail))
              go_big_quiet_want
              refine quiet_neq _ _ 32 _ rfl _ _ _ rfl rfl hgt.out HEQ.out ?_
              go_simp
              go_big_quiet_on
              repeat (go_big_quiet_step (fail))
              refine wpQuiet_nil ?_
              intro _ hw'
              obtain ⟨nr, hw''⟩ := hw'
              subst hw''
              clear n0 n1 n2 n3 y0 y1 y2 y3
              go_wp2_with fail
              go_roundw
              case rel => exact ⟨j + 1, by go_num, hlt, HW.out.trans ((ext_drewN HbW.out nr).mono HW.out.size)⟩
              case measure => simp [intOf] <;> omega
            · obtain rfl : j = L.length := by omega
              have BE := Lib.hid (B3.out.trans (HW.out.mono hs3))
              go_wp2_with fail
              go_ret
              exact ⟨rfl, BE.out⟩

/- FRAME -/

set_option maxRecDepth 100000 in
theorem lexBlanks_lifted (C : LexC) (os : Os) (started : os.Started) (H : Type) (enc : TypeId × Value → H) :
    ReturnsInHanded {} Tryd.checked os 5 .any (fun w args => (Rows.lexBlanksSpec.pre enc Tryd.prog Tryd.f5 Rows.lexBlanksRow.domain false w args ∧ laidMetH Tryd.prog laidVars w) ∧ sizedMet enc Tryd.prog Tryd.f5 (OpenSpec.ofChange Rows.lexBlanksSpec) false w args) (Rows.lexBlanksSpec.post enc Tryd.prog Tryd.f5 false true false false) := by
  refine returnsInHanded_of_change_and (C := Tryd.checked) (X := fun w _ => laidMetH Tryd.prog laidVars w) (fun _ _ _ hh h => h.of_heap hh) Tryd.own started (by kernel_rfl) Tryd.func5
    (ChangeSpec.witness_shaped (enc := enc) (C := Tryd.checked) (os := os) (X := fun w _ => laidMetH Tryd.prog laidVars w) false (World.laidAll Tryd.prog os laidVars) #[.string ⟨#[]⟩, .int .i64 0] 8 (World.laidAll_os _ _ _)
      (wit_shaped os _) (by kernel_rfl) (by kernel_rfl) (by kernel_rfl) (wit_met os _)) ?_
  intro W base args ds gs before hval0 hW _ hsz hL _
  have hval : ∀ (j : Nat) t v, Tryd.f5.params[j]? = some t → args[j]? = some v → Value.okWide Tryd.prog W .any base t v := hval0
  have hW' := hW
  obtain ⟨p, q, hA0, hV, rfl, _, _⟩ := hW
  have hA : DataW.TrodAll enc Tryd.prog W 0 (fun _ => true) true Tryd.f5.params.toList args.toList ds p := hA0
  rw [Tryd.params5] at hA hval hsz
  obtain ⟨v0, v1, d0, d1, p0, p1, rfl, rfl, rfl, h0, h1⟩ := trodAll_two hA
  obtain ⟨z1, rfl, iz1⟩ := open_num (hval 1 3 v1 rfl rfl) h1
  obtain ⟨s0, rfl, zs0⟩ := open_word6 (hval 0 9 v0 rfl rfl) h0 (fun n hn => of_decide_eq_true (List.all_eq_true.1 hsz _ (DataW.weights_mem_each (j := 0) (t := 9) rfl rfl n hn)))
  have hG := GV.of_laid hL
  clear hA0 hval0 hL
  refine (blanks_walk C s0 z1 W hG (by unfold reachBytes at zs0; omega) iz1).mono fun e W' ⟨he, hb⟩ => ⟨_, he, post_law rfl hW' rfl rfl ?_ hb⟩
  intro t ht
  rw [Tryd.params5] at ht
  simp only [List.mem_cons, List.not_mem_nil, or_false] at ht
  rcases ht with rfl | rfl <;> exact ⟨by kernel_rfl, of_decide_eq_true (by kernel_rfl)⟩

theorem lexBlanks_holds (C : LexC) : Rows.LexBlanksSaid :=
  OpenClaim.holds_of_wide 5 Tryd.f5 rfl rfl rfl rfl rfl rfl rfl ⟨rfl, rfl, rfl, rfl, rfl⟩ rfl rfl rfl rfl rfl (by kernel_rfl) Tryd.func5 (by kernel_rfl)
    (of_decide_eq_true (by kernel_rfl)) (by unfold Func.isWrapper; rw [if_neg (of_decide_eq_false (by kernel_rfl))]; exact ⟨rfl, rfl⟩)
    (fun os started H enc _ => lexBlanks_lifted C os started H enc)

set_option maxRecDepth 100000 in
theorem lexBlanks_card (C : LexC) : Rows.LexBlanksCardSaid :=
  Claim7.holds_tied_plain_at .later [] Rows.lexBlanksCard.laidKinds true Rows.lexBlanksCard.stood.harness true (lexBlanks_holds C) (fun _ h => by cases h) (by kernel_rfl) (fun _ h => by cases h) lexBlanks_row_tie rfl ⟨rfl, rfl⟩ (by kernel_rfl) rfl
    (fun f fn hf hfn => by
      obtain rfl : f = 5 := Option.some.inj ((show Tryd.prog.funcNamed "weathercock/weathercocklaw07.LexBlanks" = some 5 by kernel_rfl).symm.trans hf) |>.symm
      obtain rfl : fn = Tryd.f5 := (Option.some.inj (Tryd.func5.symm.trans hfn)).symm
      exact ⟨by kernel_rfl, fun j t ht => by
        rw [Tryd.params5] at ht
        have hm : t ∈ [9, 3] := by simpa using Array.mem_of_getElem? ht
        have hall : ([9, 3].all fun u => !Tryd.prog.wantsStandIn u) = true := by kernel_rfl
        exact (show Tryd.prog.wantsStandIn t = false by simpa using List.all_eq_true.1 hall t hm)⟩)
    (by kernel_rfl)

#print axioms lexBlanks_card

end Go.Proofs.YtejfjlbnehdgnaaDoor
