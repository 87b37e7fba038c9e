/- The reference's token at a place: a word or a name. -/
import Derived.Test.YtejfjlbnehdgnaaDoorLxRS
namespace Go.Proofs.YtejfjlbnehdgnaaDoor
open Go.RowKit
set_option maxRecDepth 100000

theorem words_lex : wordsL.map (fun x => x.data.toList) = lexWords := rfl
/-- What kind stands in the token behind i of the words. -/
def pickK (st : Bs) : Nat → Int
  | 0 => 2
  | i + 1 => if lexWords[i]? = some st then 1 else pickK st i
theorem pickK_all (st : Bs) : ∀ n, pickK st n = if st ∈ lexWords.take n then 1 else 2
  | 0 => by simp [pickK]
  | n + 1 => by
    rw [pickK, pickK_all st n, List.take_add_one]
    by_cases h : lexWords[n]? = some st
    · rw [if_pos h, h, if_pos (by simp)]
    · rw [if_neg h]
      have : st ∈ lexWords.take n ++ lexWords[n]?.toList ↔ st ∈ lexWords.take n := by
        rw [List.mem_append]
        refine ⟨fun hh => ?_, .inl⟩
        rcases hh with hh | hh
        · exact hh
        · cases he : lexWords[n]? with
          | none => rw [he] at hh; cases hh
          | some x => rw [he] at hh h; simp at hh; exact absurd (by rw [hh]) h
      simp only [this]

set_option maxHeartbeats 4000000 in
theorem rone_word (s : ByteArray) (k : Nat) (w : World) (hk : k < s.size) (hs : s.size ≤ 2000) (b : UInt8) (hb : s.data.toList[k]? = some b) (hl : isLetter b = true) :
    Calls Tryd.prog 12 #[.string s, .int .i64 (k : Int)] w fun e w' => OneOut (oneWord (s.data.toList.drop k)) k e ∧ Below w.heap.size w w' := by
  have hsl : s.data.toList.length = s.size := Array.length_toList
  obtain ⟨p4, p5⟩ := byt_data hb
  have eb := (byt_at s k p4).trans p5
  clear p5
  obtain ⟨D, hD⟩ : ∃ D, D = (s.data.toList.drop k).takeWhile isWordB := ⟨_, rfl⟩
  have hD1 : 1 ≤ D.length := by
    obtain ⟨hl2, rfl⟩ := List.getElem?_eq_some_iff.1 hb
    rw [hD, List.drop_eq_getElem_cons hl2]
    exact takeWhile_pos (letter_word hl)
  have hD2 : k + D.length ≤ s.size := by
    have := takeWhile_le isWordB (s.data.toList.drop k)
    rw [← hD, List.length_drop, hsl] at this
    omega
  have HD := Lib.hid hD
  clear hb hD
  go_enter Tryd.func12, Tryd.ntmps12
  go_wp2_with fail
  refine (rletter_any b _ rfl _).mono ?_
  rintro e w9 ⟨rfl, hw9⟩
  rw [hw9]
  clear hw9
  rw [hl]
  go_wp2_with fail
  have R0 := Lib.hid (RS.new w 0 0 k ⟨#[]⟩ 31)
  obtain ⟨W, hW⟩ : ∃ W, W = ((w.alloc (.cells #[.int .i64 0, .int .i64 0, .int .i64 0, .string ⟨#[]⟩] 31)).alloc (.cells #[.int .i64 0, .int .i64 0, .int .i64 (k : Int), .string ⟨#[]⟩] 31)) := ⟨_, rfl⟩
  rw [← hW] at R0
  rw [← hW]
  clear hW
  go_loopw [10] (fun vi wr => ∃ j : Nat, vi = .int .i64 j ∧ k + 1 ≤ j ∧ j ≤ k + D.length ∧ wr = W) (fun vi _ => s.size - (intOf vi).toNat)
  case atStart => exact ⟨k + 1, by go_num, by omega, by omega, rfl⟩
  case round =>
    obtain ⟨j, rfl, hj1, hj2, hWr⟩ := hrel
    rw [hWr]
    clear hWr
    by_cases hlt : j < s.size
    · obtain ⟨c, hc⟩ : ∃ c, s.data.toList[j]? = some c := ⟨_, List.getElem?_eq_getElem (by rw [hsl]; exact hlt)⟩
      obtain ⟨q4, q5⟩ := byt_data hc
      have ec := (byt_at s j q4).trans q5
      have hc2 : (s.data.toList.drop k)[j - k]? = some c := by rw [List.getElem?_drop, show k + (j - k) = j by omega, hc]
      have hiff := takeWhile_at (p := isWordB) (i := j - k) (by rw [← HD.out]; omega) hc2
      rw [← HD.out] at hiff
      have HI := Lib.hid hiff
      clear hiff hc2 hc q5
      go_wp2_with fail
      refine (rletter_any c _ rfl _).mono ?_
      rintro e w9 ⟨rfl, hw9⟩
      rw [hw9]
      clear hw9
      cases hcl : isLetter c with
      | true =>
        have hjn : j + 1 ≤ k + D.length := by have := HI.out.2 (letter_word hcl); omega
        clear HI
        go_wp2_with fail
        go_roundw
        case rel => exact ⟨j + 1, by go_num, by omega, hjn, trivial⟩
        case measure => simp [intOf] <;> omega
      | false =>
        go_wp2_with fail
        refine (rdigit_any c _ rfl _).mono ?_
        rintro e w9 ⟨rfl, hw9⟩
        rw [hw9]
        clear hw9
        cases hcd : isDigit c with
        | true =>
          have hjn : j + 1 ≤ k + D.length := by have := HI.out.2 (by unfold isWordB; rw [hcd]; simp); omega
          clear HI
          go_wp2_with fail
          go_roundw
          case rel => exact ⟨j + 1, by go_num, by omega, hjn, trivial⟩
          case measure => simp [intOf] <;> omega
        | false =>
          by_cases h95 : c = 95
          · have hjn : j + 1 ≤ k + D.length := by have := HI.out.2 (by unfold isWordB; rw [h95]; simp); omega
            have m1 : ((c.toNat : Int) == 95) = true := by rw [h95]; rfl
            clear HI h95
            go_wp2_with fail
            go_roundw
            case rel => exact ⟨j + 1, by go_num, by omega, hjn, trivial⟩
            case measure => simp [intOf] <;> omega
          · have hjk : j = k + D.length := by
              have h : ¬ j - k < D.length := fun h => by
                have h2 := HI.out.1 h
                unfold isWordB at h2
                rw [hcl, hcd] at h2
                simp at h2
                exact h95 h2
              omega
            have m1 : ((c.toNat : Int) == 95) = false := by
              rw [beq_eq_false_iff_ne]
              intro h
              exact h95 (UInt8.toNat_inj.1 (by have : c.toNat = 95 := (by omega); rw [this]; rfl))
            clear HI h95
            have HJ := Lib.hid hjk
            clear hjk
            obtain ⟨c0, f8⟩ := And.intro R0.out.c0 (R0.out.f8 0)
            go_wp2_with fail
            obtain ⟨Y, hY⟩ : ∃ Y, Y = W.setCell ⟨w.heap.size + 1, 0, none⟩ (.int .i64 2) := ⟨_, rfl⟩
            have RY := Lib.hid (show RS w Y 2 0 k ⟨#[]⟩ by rw [hY]; exact R0.out.setK 2)
            try rw [← hY]
            clear hY c0 f8
            have hex : (s.extract k j).data.toList = D := by
              rw [ByteArray.data_extract, Array.toList_extract, List.extract_eq_take_drop, HJ.out, Nat.add_sub_cancel_left, HD.out]
              exact (List.prefix_iff_eq_take.1 (List.takeWhile_prefix isWordB)).symm
            have hexs : (s.extract k j).size ≤ 2000 := by rw [← show (s.extract k j).data.toList.length = (s.extract k j).size from Array.length_toList, hex]; omega
            have HEX := Lib.hid hex
            clear hex
            refine (rsmall_any _ _ hexs).mono ?_
            rintro e Z ⟨rfl, hbZ⟩
            rw [HEX.out]
            obtain ⟨ST, hST⟩ : ∃ ST, ST = bsB (D.map lower) := ⟨_, rfl⟩
            have hSTs : ST.size = D.length := by rw [hST, bsB_len, List.length_map]
            rw [← hST]
            have HST := Lib.hid hST
            have RZ := Lib.hid (RY.out.ext hbZ)
            obtain ⟨c3, f8⟩ := And.intro RZ.out.c3 (RZ.out.f8 3)
            clear hST hexs hbZ
            go_wp2_with fail
            obtain ⟨U, hU⟩ : ∃ U, U = Z.setCell ⟨w.heap.size + 1, 3, none⟩ (.string ST) := ⟨_, rfl⟩
            have RU := Lib.hid (show RS w U 2 0 k ST by rw [hU]; exact RZ.out.setS ST)
            try rw [← hU]
            clear hU c3 f8
            refine (rwords_any U).mono ?_
            rintro e T ⟨g, rfl, hStr, hbT⟩
            have RT := Lib.hid (RU.out.ext hbT)
            have hgw : ∀ i x, wordsL[i]? = some x → T.cell? ⟨g, i, none⟩ = some (.string x) ∧ w.heap.size + 1 < g := fun i x hx => by
              obtain ⟨g', off, hg, h1, _, hc⟩ := hStr i (List.getElem?_eq_some_iff.1 hx).1
              obtain ⟨rfl, rfl⟩ : g = g' ∧ 0 = off := by simpa using hg
              have h2 := hc i x hx
              unfold strC at h2
              rw [Nat.zero_add, Nat.mul_one] at h2
              exact ⟨h2, Nat.lt_of_lt_of_le RU.out.lt h1⟩
            have H0 := Lib.hid hgw
            clear hgw hStr hbT
            go_wp2_with fail
            go_loopw [12] (fun vi wr => ∃ i : Nat, vi = .int .i64 i ∧ i ≤ 25 ∧ Hid (RS w wr (pickK (D.map lower) i) 0 k ST ∧ ∀ i x, wordsL[i]? = some x → wr.cell? ⟨g, i, none⟩ = some (.string x) ∧ w.heap.size + 1 < g)) (fun vi _ => 25 - (intOf vi).toNat)
            case atStart => exact ⟨0, rfl, by omega, RT.out, H0.out⟩
            case round =>
              clear H0
              obtain ⟨i, rfl, hi, HH⟩ := hrel
              obtain ⟨V, hV⟩ : ∃ V, V = wr := ⟨_, rfl⟩
              rw [← hV] at HH
              rw [← hV]
              clear hV
              by_cases hlt2 : i < 25
              · obtain ⟨x, hx⟩ : ∃ x, wordsL[i]? = some x := ⟨_, List.getElem?_eq_getElem hlt2⟩
                obtain ⟨cx, hgg⟩ := HH.out.2 i x hx
                have hxl : lexWords[i]? = some x.data.toList := by rw [← words_lex, List.getElem?_map, hx]; rfl
                obtain ⟨c3, f8⟩ := And.intro HH.out.1.c3 (HH.out.1.f8 0)
                have c0 := HH.out.1.c0
                by_cases heq : x.data.toList = D.map lower
                · have m1 : (x.toList == ST.toList) = true := by rw [HST.out, ByteArray.toList_eq, ByteArray.toList_eq, heq]; simp
                  have hnext : pickK (D.map lower) (i + 1) = 1 := by rw [pickK, if_pos (by rw [hxl, heq])]
                  have HN := Lib.hid hnext
                  clear hnext heq hxl hx
                  go_wp2_with fail
                  go_big_quiet (fail)
                  go_wp2_with fail
                  go_roundw
                  case rel =>
                    refine ⟨i + 1, by go_num, hlt2, ?_, fun i x h => ⟨?_, hgg⟩⟩
                    · rw [HN.out]; exact (HH.out.1.ext (ext_drewN (ext_refl _) nq)).setK 1
                    · exact (World.cell?_setCell_other _ _ _ _ (fun e => by have h1 := congrArg Addr.block e; simp at h1; omega)).trans (HH.out.2 i x h).1
                  case measure => simp [intOf] <;> omega
                · have m1 : (x.toList == ST.toList) = false := by rw [HST.out, ByteArray.toList_eq, ByteArray.toList_eq, beq_eq_false_iff_ne]; exact heq
                  have hnext : pickK (D.map lower) (i + 1) = pickK (D.map lower) i := by rw [pickK, if_neg (by rw [hxl]; simpa using heq)]
                  have HN := Lib.hid hnext
                  clear hnext heq hxl hx c0
                  go_wp2_with fail
                  go_big_quiet (fail)
                  go_wp2_with fail
                  go_roundw
                  case rel => exact ⟨i + 1, by go_num, hlt2, by rw [HN.out]; exact HH.out.1.ext (ext_drewN (ext_refl _) nq), fun i x h => HH.out.2 i x h⟩
                  case measure => simp [intOf] <;> omega
              · obtain rfl : i = 25 := by omega
                have r := HH.out.1
                rw [pickK_all, show lexWords.take 25 = lexWords from rfl] at r
                obtain ⟨kd, hkd⟩ : ∃ kd : Nat, kd = if D.map lower ∈ lexWords then 1 else 2 := ⟨_, rfl⟩
                rw [show (if D.map lower ∈ lexWords then (1 : Int) else 2) = (kd : Int) by rw [hkd]; split <;> rfl] at r
                have HR := Lib.hid r
                have HK := Lib.hid hkd
                obtain ⟨c0, c1, c2, c3⟩ := And.intro r.c0 (And.intro r.c1 (And.intro r.c2 r.c3))
                obtain ⟨z0, z1, z2, z3⟩ := And.intro r.z0 (And.intro r.z1 (And.intro r.z2 r.z3))
                have f4 := r.f4
                have f8 := r.f8
                clear r HH hkd RT RU RZ RY R0
                by_cases h20 : 20 < D.length
                · have he : oneWord (s.data.toList.drop k) = .err 5 0 := by unfold oneWord; rw [← HD.out, if_pos h20]
                  have HE := Lib.hid he
                  have q1 : (ST.size : Int) > 20 := by omega
                  clear he
                  go_wp2_with fail
                  obtain ⟨X, hX⟩ : ∃ X, X = ((((V.setCell ⟨w.heap.size, 0, none⟩ (.int .i64 (kd : Int))).setCell ⟨w.heap.size, 1, none⟩ (.int .i64 0)).setCell ⟨w.heap.size, 2, none⟩ (.int .i64 (k : Int))).setCell ⟨w.heap.size, 3, none⟩ (.string ST)) := ⟨_, rfl⟩
                  obtain ⟨x0, x1, x2, x3, hbX⟩ := HR.out.back kd 0 k ST X hX
                  rw [← hX]
                  clear hX
                  refine bodyPost_ret (v := .tuple #[.agg #[.int .i64 (kd : Int), .int .i64 0, .int .i64 (k : Int), .string ST], .int .i64 0, .int .i64 5, .int .i64 (k : Int)]) (by simp [results, Tryd.results12, go_sem, x0, x1, x2, x3]) rfl ⟨?_, hbX⟩
                  rw [HE.out]
                  exact ⟨_, _, _, _, rfl⟩
                · have he : oneWord (s.data.toList.drop k) = .tok kd 0 (D.map lower) D.length := by unfold oneWord; rw [← HD.out, if_neg h20, HK.out]
                  have HE := Lib.hid he
                  have q1 : ¬ (ST.size : Int) > 20 := by omega
                  clear he
                  go_wp2_with fail
                  obtain ⟨X, hX⟩ : ∃ X, X = ((((V.setCell ⟨w.heap.size, 0, none⟩ (.int .i64 (kd : Int))).setCell ⟨w.heap.size, 1, none⟩ (.int .i64 0)).setCell ⟨w.heap.size, 2, none⟩ (.int .i64 (k : Int))).setCell ⟨w.heap.size, 3, none⟩ (.string ST)) := ⟨_, rfl⟩
                  obtain ⟨x0, x1, x2, x3, hbX⟩ := HR.out.back kd 0 k ST X hX
                  rw [← hX]
                  clear hX
                  refine bodyPost_ret (v := .tuple #[.agg #[.int .i64 (kd : Int), .int .i64 0, .int .i64 (k : Int), .string ST], .int .i64 (j : Int), .int .i64 0, .int .i64 0]) (by simp [results, Tryd.results12, go_sem, x0, x1, x2, x3]) rfl ⟨?_, hbX⟩
                  rw [HE.out, HST.out, HJ.out]
                  rfl
    · have hjk : j = k + D.length := by omega
      have HJ := Lib.hid hjk
      clear hjk
      obtain ⟨c0, f8⟩ := And.intro R0.out.c0 (R0.out.f8 0)
      go_wp2_with fail
      obtain ⟨Y, hY⟩ : ∃ Y, Y = W.setCell ⟨w.heap.size + 1, 0, none⟩ (.int .i64 2) := ⟨_, rfl⟩
      have RY := Lib.hid (show RS w Y 2 0 k ⟨#[]⟩ by rw [hY]; exact R0.out.setK 2)
      try rw [← hY]
      clear hY c0 f8
      have hex : (s.extract k j).data.toList = D := by
        rw [ByteArray.data_extract, Array.toList_extract, List.extract_eq_take_drop, HJ.out, Nat.add_sub_cancel_left, HD.out]
        exact (List.prefix_iff_eq_take.1 (List.takeWhile_prefix isWordB)).symm
      have hexs : (s.extract k j).size ≤ 2000 := by rw [← show (s.extract k j).data.toList.length = (s.extract k j).size from Array.length_toList, hex]; omega
      have HEX := Lib.hid hex
      clear hex
      refine (rsmall_any _ _ hexs).mono ?_
      rintro e Z ⟨rfl, hbZ⟩
      rw [HEX.out]
      obtain ⟨ST, hST⟩ : ∃ ST, ST = bsB (D.map lower) := ⟨_, rfl⟩
      have hSTs : ST.size = D.length := by rw [hST, bsB_len, List.length_map]
      rw [← hST]
      have HST := Lib.hid hST
      have RZ := Lib.hid (RY.out.ext hbZ)
      obtain ⟨c3, f8⟩ := And.intro RZ.out.c3 (RZ.out.f8 3)
      clear hST hexs hbZ
      go_wp2_with fail
      obtain ⟨U, hU⟩ : ∃ U, U = Z.setCell ⟨w.heap.size + 1, 3, none⟩ (.string ST) := ⟨_, rfl⟩
      have RU := Lib.hid (show RS w U 2 0 k ST by rw [hU]; exact RZ.out.setS ST)
      try rw [← hU]
      clear hU c3 f8
      refine (rwords_any U).mono ?_
      rintro e T ⟨g, rfl, hStr, hbT⟩
      have RT := Lib.hid (RU.out.ext hbT)
      have hgw : ∀ i x, wordsL[i]? = some x → T.cell? ⟨g, i, none⟩ = some (.string x) ∧ w.heap.size + 1 < g := fun i x hx => by
        obtain ⟨g', off, hg, h1, _, hc⟩ := hStr i (List.getElem?_eq_some_iff.1 hx).1
        obtain ⟨rfl, rfl⟩ : g = g' ∧ 0 = off := by simpa using hg
        have h2 := hc i x hx
        unfold strC at h2
        rw [Nat.zero_add, Nat.mul_one] at h2
        exact ⟨h2, Nat.lt_of_lt_of_le RU.out.lt h1⟩
      have H0 := Lib.hid hgw
      clear hgw hStr hbT
      go_wp2_with fail
      go_loopw [12] (fun vi wr => ∃ i : Nat, vi = .int .i64 i ∧ i ≤ 25 ∧ Hid (RS w wr (pickK (D.map lower) i) 0 k ST ∧ ∀ i x, wordsL[i]? = some x → wr.cell? ⟨g, i, none⟩ = some (.string x) ∧ w.heap.size + 1 < g)) (fun vi _ => 25 - (intOf vi).toNat)
      case atStart => exact ⟨0, rfl, by omega, RT.out, H0.out⟩
      case round =>
        clear H0
        obtain ⟨i, rfl, hi, HH⟩ := hrel
        obtain ⟨V, hV⟩ : ∃ V, V = wr := ⟨_, rfl⟩
        rw [← hV] at HH
        rw [← hV]
        clear hV
        by_cases hlt2 : i < 25
        · obtain ⟨x, hx⟩ : ∃ x, wordsL[i]? = some x := ⟨_, List.getElem?_eq_getElem hlt2⟩
          obtain ⟨cx, hgg⟩ := HH.out.2 i x hx
          have hxl : lexWords[i]? = some x.data.toList := by rw [← words_lex, List.getElem?_map, hx]; rfl
          obtain ⟨c3, f8⟩ := And.intro HH.out.1.c3 (HH.out.1.f8 0)
          have c0 := HH.out.1.c0
          by_cases heq : x.data.toList = D.map lower
          · have m1 : (x.toList == ST.toList) = true := by rw [HST.out, ByteArray.toList_eq, ByteArray.toList_eq, heq]; simp
            have hnext : pickK (D.map lower) (i + 1) = 1 := by rw [pickK, if_pos (by rw [hxl, heq])]
            have HN := Lib.hid hnext
            clear hnext heq hxl hx
            go_wp2_with fail
            go_big_quiet (fail)
            go_wp2_with fail
            go_roundw
            case rel =>
              refine ⟨i + 1, by go_num, hlt2, ?_, fun i x h => ⟨?_, hgg⟩⟩
              · rw [HN.out]; exact (HH.out.1.ext (ext_drewN (ext_refl _) nq)).setK 1
              · exact (World.cell?_setCell_other _ _ _ _ (fun e => by have h1 := congrArg Addr.block e; simp at h1; omega)).trans (HH.out.2 i x h).1
            case measure => simp [intOf] <;> omega
          · have m1 : (x.toList == ST.toList) = false := by rw [HST.out, ByteArray.toList_eq, ByteArray.toList_eq, beq_eq_false_iff_ne]; exact heq
            have hnext : pickK (D.map lower) (i + 1) = pickK (D.map lower) i := by rw [pickK, if_neg (by rw [hxl]; simpa using heq)]
            have HN := Lib.hid hnext
            clear hnext heq hxl hx c0
            go_wp2_with fail
            go_big_quiet (fail)
            go_wp2_with fail
            go_roundw
            case rel => exact ⟨i + 1, by go_num, hlt2, by rw [HN.out]; exact HH.out.1.ext (ext_drewN (ext_refl _) nq), fun i x h => HH.out.2 i x h⟩
            case measure => simp [intOf] <;> omega
        · obtain rfl : i = 25 := by omega
          have r := HH.out.1
          rw [pickK_all, show lexWords.take 25 = lexWords from rfl] at r
          obtain ⟨kd, hkd⟩ : ∃ kd : Nat, kd = if D.map lower ∈ lexWords then 1 else 2 := ⟨_, rfl⟩
          rw [show (if D.map lower ∈ lexWords then (1 : Int) else 2) = (kd : Int) by rw [hkd]; split <;> rfl] at r
          have HR := Lib.hid r
          have HK := Lib.hid hkd
          obtain ⟨c0, c1, c2, c3⟩ := And.intro r.c0 (And.intro r.c1 (And.intro r.c2 r.c3))
          obtain ⟨z0, z1, z2, z3⟩ := And.intro r.z0 (And.intro r.z1 (And.intro r.z2 r.z3))
          have f4 := r.f4
          have f8 := r.f8
          clear r HH hkd RT RU RZ RY R0
          by_cases h20 : 20 < D.length
          · have he : oneWord (s.data.toList.drop k) = .err 5 0 := by unfold oneWord; rw [← HD.out, if_pos h20]
            have HE := Lib.hid he
            have q1 : (ST.size : Int) > 20 := by omega
            clear he
            go_wp2_with fail
            obtain ⟨X, hX⟩ : ∃ X, X = ((((V.setCell ⟨w.heap.size, 0, none⟩ (.int .i64 (kd : Int))).setCell ⟨w.heap.size, 1, none⟩ (.int .i64 0)).setCell ⟨w.heap.size, 2, none⟩ (.int .i64 (k : Int))).setCell ⟨w.heap.size, 3, none⟩ (.string ST)) := ⟨_, rfl⟩
            obtain ⟨x0, x1, x2, x3, hbX⟩ := HR.out.back kd 0 k ST X hX
            rw [← hX]
            clear hX
            refine bodyPost_ret (v := .tuple #[.agg #[.int .i64 (kd : Int), .int .i64 0, .int .i64 (k : Int), .string ST], .int .i64 0, .int .i64 5, .int .i64 (k : Int)]) (by simp [results, Tryd.results12, go_sem, x0, x1, x2, x3]) rfl ⟨?_, hbX⟩
            rw [HE.out]
            exact ⟨_, _, _, _, rfl⟩
          · have he : oneWord (s.data.toList.drop k) = .tok kd 0 (D.map lower) D.length := by unfold oneWord; rw [← HD.out, if_neg h20, HK.out]
            have HE := Lib.hid he
            have q1 : ¬ (ST.size : Int) > 20 := by omega
            clear he
            go_wp2_with fail
            obtain ⟨X, hX⟩ : ∃ X, X = ((((V.setCell ⟨w.heap.size, 0, none⟩ (.int .i64 (kd : Int))).setCell ⟨w.heap.size, 1, none⟩ (.int .i64 0)).setCell ⟨w.heap.size, 2, none⟩ (.int .i64 (k : Int))).setCell ⟨w.heap.size, 3, none⟩ (.string ST)) := ⟨_, rfl⟩
            obtain ⟨x0, x1, x2, x3, hbX⟩ := HR.out.back kd 0 k ST X hX
            rw [← hX]
            clear hX
            refine bodyPost_ret (v := .tuple #[.agg #[.int .i64 (kd : Int), .int .i64 0, .int .i64 (k : Int), .string ST], .int .i64 (j : Int), .int .i64 0, .int .i64 0]) (by simp [results, Tryd.results12, go_sem, x0, x1, x2, x3]) rfl ⟨?_, hbX⟩
            rw [HE.out, HST.out, HJ.out]
            rfl

end Go.Proofs.YtejfjlbnehdgnaaDoor
