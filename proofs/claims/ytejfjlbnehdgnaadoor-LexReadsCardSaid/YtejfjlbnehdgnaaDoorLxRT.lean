/- The reference's token at a place: a text between quotes. -/
import Derived.Test.YtejfjlbnehdgnaaDoorLxRS
import Derived.Test.YtejfjlbnehdgnaaDoorLxV
namespace Go.Proofs.YtejfjlbnehdgnaaDoor
open Go.RowKit
set_option maxRecDepth 100000

set_option maxHeartbeats 4000000 in
theorem rone_text (s : ByteArray) (k : Nat) (w : World) (hk : k < s.size) (hs : s.size ≤ 2000) (hb : s.data.toList[k]? = some 39) :
    Calls Tryd.prog 12 #[.string s, .int .i64 (k : Int)] w fun e w' => OneOut (oneText (s.data.toList.drop (k + 1))) k e ∧ Below w.heap.size w w' := by
  have hsl : s.data.toList.length = s.size := Array.length_toList
  obtain ⟨p4, p5⟩ := byt_data hb
  have eb : ((s[k]'p4).toNat : Int) = 39 := (byt_at s k p4).trans p5
  clear p5 hb
  go_enter Tryd.func12, Tryd.ntmps12
  go_wp2_with fail
  refine (rletter_any 39 _ rfl _).mono ?_
  rintro e w9 ⟨rfl, hw9⟩
  rw [hw9]
  clear hw9
  rw [show isLetter 39 = false from rfl]
  go_wp2_with fail
  refine (rdigit_any 39 _ rfl _).mono ?_
  rintro e w9 ⟨rfl, hw9⟩
  rw [hw9]
  clear hw9
  rw [show isDigit 39 = false from rfl]
  go_wp2_with fail
  have R0 := Lib.hid (RS.new w 4 0 k ⟨#[]⟩ 31)
  obtain ⟨W, hW⟩ : ∃ W, W = ((w.alloc (.cells #[.int .i64 0, .int .i64 0, .int .i64 0, .string ⟨#[]⟩] 31)).alloc (.cells #[.int .i64 4, .int .i64 0, .int .i64 (k : Int), .string ⟨#[]⟩] 31)) := ⟨_, rfl⟩
  rw [← hW] at R0
  rw [← hW]
  clear hW
  obtain ⟨r0, hr0⟩ : ∃ r0, r0 = textOf (s.data.toList.drop (k + 1)) := ⟨_, rfl⟩
  have HR0 := Lib.hid hr0
  clear hr0
  go_loopw [10, 16] (fun vj vo wr => ∃ (j : Nat) (O : Bs), vj = .int .i64 j ∧ k + 1 ≤ j ∧ j ≤ s.size ∧ O.length ≤ j ∧ Hid (OwnB wr W.heap.size vo (toJ O) ∧ Below W.heap.size W wr ∧ r0 = (textOf (s.data.toList.drop j)).map fun x => (O ++ x.1, x.2 + (j - (k + 1))))) (fun vj _ _ => s.size - (intOf vj).toNat)
  case atStart => exact ⟨k + 1, [], by go_num, by omega, by omega, by simp, OwnB.nil _ _, Below.refl _ _, by rw [HR0.out, Nat.sub_self]; cases textOf (s.data.toList.drop (k + 1)) <;> rfl⟩
  case round =>
    obtain ⟨j, O, rfl, hj1, hj2, hO, HH⟩ := hrel
    obtain ⟨V, hV⟩ : ∃ V, V = wr := ⟨_, rfl⟩
    rw [← hV] at HH
    rw [← hV]
    clear hV
    have RV := Lib.hid (R0.out.ext HH.out.2.1)
    by_cases hlt : j < s.size
    · obtain ⟨c, hc⟩ : ∃ c, s.data.toList[j]? = some c := ⟨_, List.getElem?_eq_getElem (by rw [hsl]; exact hlt)⟩
      obtain ⟨q4, q5⟩ := byt_data hc
      have ec := (byt_at s j q4).trans q5
      have hdc : s.data.toList.drop j = c :: s.data.toList.drop (j + 1) := by
        obtain ⟨h1, rfl⟩ := List.getElem?_eq_some_iff.1 hc
        exact List.drop_eq_getElem_cons h1
      by_cases h39 : c = 39
      · subst h39
        have ec2 : ((s[j]'q4).toNat : Int) = 39 := ec
        clear ec
        have HO := HH.out.1
        by_cases hj1s : j + 1 < s.size
        · obtain ⟨d, hd⟩ : ∃ d, s.data.toList[j + 1]? = some d := ⟨_, List.getElem?_eq_getElem (by rw [hsl]; exact hj1s)⟩
          obtain ⟨e4, e5⟩ := byt_data hd
          have ed := (byt_at s (j + 1) e4).trans e5
          have hne : ((j : Int) + 1 == (s.size : Int)) = false := by rw [beq_eq_false_iff_ne]; omega
          have hdd : s.data.toList.drop (j + 1) = d :: s.data.toList.drop (j + 2) := by
            obtain ⟨h1, rfl⟩ := List.getElem?_eq_some_iff.1 hd
            exact List.drop_eq_getElem_cons h1
          clear hd e5
          by_cases hd39 : d = 39
          · subst hd39
            have ed2 : ((s[j + 1]'e4).toNat : Int) = 39 := ed
            clear ed
            have hnext : r0 = (textOf (s.data.toList.drop (j + 2))).map fun x => (O ++ [39] ++ x.1, x.2 + (j + 2 - (k + 1))) := by
              rw [HH.out.2.2, hdc, hdd, textOf_two, if_pos rfl, if_pos rfl]
              cases textOf (s.data.toList.drop (j + 2)) with
              | none => rfl
              | some x =>
                simp only [Option.map_some, List.append_assoc, List.singleton_append]
                rw [show x.2 + 2 + (j - (k + 1)) = x.2 + (j + 2 - (k + 1)) by omega]
            have HN := Lib.hid hnext
            obtain ⟨vp, vn, vc, rfl⟩ := HO.slice
            clear hnext hdc hc q5 hdd
            go_wp2_with (at_builtin; refine wp_append_byte2 rfl _ _ rfl W.heap.size _ _ rfl (HO.later ?k1_2) 39 _ _ rfl ?k2_2 ?k3_2 ?k4_2 ?_)
            try (case k1_2 => ((repeat (first | exact ext_refl _ | assumption | (refine ext_alloc ?_ _) | (refine ext_drewN ?_ _) | refine ext_drew ?_ | (refine ext_set (by first | (simp; done) | (simp; omega)) _ ?_) | (refine ext_trans ?_ (by assumption))))))
            try (case k2_2 => (simp [go_sem]))
            try (case k3_2 => (rw [List.length_map]; omega))
            try (case k4_2 => (have := HH.out.2.1.size; first | omega | (simp; omega)))
            intro v2 w2 HO2 hg2 hb2
            obtain ⟨vp2, vn2, vc2, rfl⟩ := HO2.slice
            have hbn : Below W.heap.size W w2 := Below.trans (ext_alloc HH.out.2.1 _) hb2
            go_wp2
            go_roundw
            case rel => exact ⟨j + 2, O ++ [39], by go_num, by omega, by omega, by rw [List.length_append]; simp; omega, by rw [toJ_app]; exact HO2, hbn, HN.out⟩
            case measure => simp [intOf] <;> omega
          · have m2 : ((d.toNat : Int) == 39) = false := by
              rw [beq_eq_false_iff_ne]
              intro h
              exact hd39 (UInt8.toNat_inj.1 (by have : d.toNat = 39 := (by omega); rw [this]; rfl))
            have hbrk : textOf (s.data.toList.drop j) = some ([], 1) := by rw [hdc, hdd, textOf_two, if_pos rfl, if_neg hd39]
            clear hd39 hdd
            obtain ⟨vp, vn, vc, rfl⟩ := HO.slice
            obtain rfl : vn = O.length := by rw [OwnB.len HO, List.length_map]
            have kb := conv_own HO
            obtain ⟨ST, hST⟩ : ∃ ST, ST = bsB O := ⟨_, rfl⟩
            rw [← hST] at kb
            have HST := Lib.hid hST
            obtain ⟨c0, c1, c2, c3⟩ := And.intro RV.out.c0 (And.intro RV.out.c1 (And.intro RV.out.c2 RV.out.c3))
            obtain ⟨z0, z1, z2, z3⟩ := And.intro RV.out.z0 (And.intro RV.out.z1 (And.intro RV.out.z2 RV.out.z3))
            have f4 := RV.out.f4
            have f8 := RV.out.f8
            have RS2 := Lib.hid (RV.out.setS ST)
            have hr : textOf (s.data.toList.drop (k + 1)) = some (O, j - k) := by rw [← HR0.out, HH.out.2.2, hbrk]; simp; omega
            have HRR := Lib.hid hr
            clear hr hST hbrk HO hdc hc q5
            by_cases h40 : 40 < O.length
            · have q1 : (O.length : Int) > 40 := by omega
              have he : oneText (s.data.toList.drop (k + 1)) = .err 5 0 := by unfold oneText; rw [HRR.out]; simp only; rw [if_pos h40]
              have HE := Lib.hid he
              clear he
              go_wp2_with fail
              obtain ⟨X, hX⟩ : ∃ X, X = (((((V.setCell ⟨w.heap.size + 1, 3, none⟩ (.string ST)).setCell ⟨w.heap.size, 0, none⟩ (.int .i64 4)).setCell ⟨w.heap.size, 1, none⟩ (.int .i64 0)).setCell ⟨w.heap.size, 2, none⟩ (.int .i64 (k : Int))).setCell ⟨w.heap.size, 3, none⟩ (.string ST)) := ⟨_, rfl⟩
              obtain ⟨x0, x1, x2, x3, hbX⟩ := RS2.out.back 4 0 k ST X hX
              rw [← hX]
              clear hX
              refine bodyPost_ret (v := .tuple #[.agg #[.int .i64 4, .int .i64 0, .int .i64 (k : Int), .string ST], .int .i64 0, .int .i64 5, .int .i64 (k : Int)]) (by simp [results, Tryd.results12, go_sem, x0, x1, x2, x3]) rfl ⟨?_, hbX⟩
              rw [HE.out]
              exact ⟨_, _, _, _, rfl⟩
            · have q1 : ¬ (O.length : Int) > 40 := by omega
              have he : oneText (s.data.toList.drop (k + 1)) = .tok 4 0 O (j - k + 1) := by unfold oneText; rw [HRR.out]; simp only; rw [if_neg h40]
              have HE := Lib.hid he
              clear he
              go_wp2_with fail
              obtain ⟨X, hX⟩ : ∃ X, X = (((((V.setCell ⟨w.heap.size + 1, 3, none⟩ (.string ST)).setCell ⟨w.heap.size, 0, none⟩ (.int .i64 4)).setCell ⟨w.heap.size, 1, none⟩ (.int .i64 0)).setCell ⟨w.heap.size, 2, none⟩ (.int .i64 (k : Int))).setCell ⟨w.heap.size, 3, none⟩ (.string ST)) := ⟨_, rfl⟩
              obtain ⟨x0, x1, x2, x3, hbX⟩ := RS2.out.back 4 0 k ST X hX
              rw [← hX]
              clear hX
              refine bodyPost_ret (v := .tuple #[.agg #[.int .i64 4, .int .i64 0, .int .i64 (k : Int), .string ST], .int .i64 ((j : Int) + 1), .int .i64 0, .int .i64 0]) (by simp [results, Tryd.results12, go_sem, x0, x1, x2, x3]) rfl ⟨?_, hbX⟩
              rw [HE.out, HST.out, show (j : Int) + 1 = ((k + (j - k + 1) : Nat) : Int) by omega]
              rfl
        · have hje : ((j : Int) + 1 == (s.size : Int)) = true := by rw [beq_iff_eq]; omega
          have hbrk : textOf (s.data.toList.drop j) = some ([], 1) := by
            rw [hdc, List.drop_eq_nil_of_le (by rw [hsl]; omega)]
            rfl
          obtain ⟨vp, vn, vc, rfl⟩ := HO.slice
          obtain rfl : vn = O.length := by rw [OwnB.len HO, List.length_map]
          have kb := conv_own HO
          obtain ⟨ST, hST⟩ : ∃ ST, ST = bsB O := ⟨_, rfl⟩
          rw [← hST] at kb
          have HST := Lib.hid hST
          obtain ⟨c0, c1, c2, c3⟩ := And.intro RV.out.c0 (And.intro RV.out.c1 (And.intro RV.out.c2 RV.out.c3))
          obtain ⟨z0, z1, z2, z3⟩ := And.intro RV.out.z0 (And.intro RV.out.z1 (And.intro RV.out.z2 RV.out.z3))
          have f4 := RV.out.f4
          have f8 := RV.out.f8
          have RS2 := Lib.hid (RV.out.setS ST)
          have hr : textOf (s.data.toList.drop (k + 1)) = some (O, j - k) := by rw [← HR0.out, HH.out.2.2, hbrk]; simp; omega
          have HRR := Lib.hid hr
          clear hr hST hbrk HO hdc hc q5
          by_cases h40 : 40 < O.length
          · have q1 : (O.length : Int) > 40 := by omega
            have he : oneText (s.data.toList.drop (k + 1)) = .err 5 0 := by unfold oneText; rw [HRR.out]; simp only; rw [if_pos h40]
            have HE := Lib.hid he
            clear he
            go_wp2_with fail
            obtain ⟨X, hX⟩ : ∃ X, X = (((((V.setCell ⟨w.heap.size + 1, 3, none⟩ (.string ST)).setCell ⟨w.heap.size, 0, none⟩ (.int .i64 4)).setCell ⟨w.heap.size, 1, none⟩ (.int .i64 0)).setCell ⟨w.heap.size, 2, none⟩ (.int .i64 (k : Int))).setCell ⟨w.heap.size, 3, none⟩ (.string ST)) := ⟨_, rfl⟩
            obtain ⟨x0, x1, x2, x3, hbX⟩ := RS2.out.back 4 0 k ST X hX
            rw [← hX]
            clear hX
            refine bodyPost_ret (v := .tuple #[.agg #[.int .i64 4, .int .i64 0, .int .i64 (k : Int), .string ST], .int .i64 0, .int .i64 5, .int .i64 (k : Int)]) (by simp [results, Tryd.results12, go_sem, x0, x1, x2, x3]) rfl ⟨?_, hbX⟩
            rw [HE.out]
            exact ⟨_, _, _, _, rfl⟩
          · have q1 : ¬ (O.length : Int) > 40 := by omega
            have he : oneText (s.data.toList.drop (k + 1)) = .tok 4 0 O (j - k + 1) := by unfold oneText; rw [HRR.out]; simp only; rw [if_neg h40]
            have HE := Lib.hid he
            clear he
            go_wp2_with fail
            obtain ⟨X, hX⟩ : ∃ X, X = (((((V.setCell ⟨w.heap.size + 1, 3, none⟩ (.string ST)).setCell ⟨w.heap.size, 0, none⟩ (.int .i64 4)).setCell ⟨w.heap.size, 1, none⟩ (.int .i64 0)).setCell ⟨w.heap.size, 2, none⟩ (.int .i64 (k : Int))).setCell ⟨w.heap.size, 3, none⟩ (.string ST)) := ⟨_, rfl⟩
            obtain ⟨x0, x1, x2, x3, hbX⟩ := RS2.out.back 4 0 k ST X hX
            rw [← hX]
            clear hX
            refine bodyPost_ret (v := .tuple #[.agg #[.int .i64 4, .int .i64 0, .int .i64 (k : Int), .string ST], .int .i64 ((j : Int) + 1), .int .i64 0, .int .i64 0]) (by simp [results, Tryd.results12, go_sem, x0, x1, x2, x3]) rfl ⟨?_, hbX⟩
            rw [HE.out, HST.out, show (j : Int) + 1 = ((k + (j - k + 1) : Nat) : Int) by omega]
            rfl
      · have m1 : ((c.toNat : Int) == 39) = false := by
          rw [beq_eq_false_iff_ne]
          intro h
          exact h39 (UInt8.toNat_inj.1 (by have : c.toNat = 39 := (by omega); rw [this]; rfl))
        have hnext : r0 = (textOf (s.data.toList.drop (j + 1))).map fun x => (O ++ [c] ++ x.1, x.2 + (j + 1 - (k + 1))) := by
          rw [HH.out.2.2, hdc, textOf_step h39]
          cases textOf (s.data.toList.drop (j + 1)) with
          | none => rfl
          | some x =>
            simp only [Option.map_some, List.append_assoc, List.singleton_append]
            rw [show x.2 + 1 + (j - (k + 1)) = x.2 + (j + 1 - (k + 1)) by omega]
        have HN := Lib.hid hnext
        have HO := HH.out.1
        obtain ⟨vp, vn, vc, rfl⟩ := HO.slice
        clear hnext hdc hc q5 h39
        go_wp2_with (at_builtin; refine wp_append_byte2 rfl _ _ rfl W.heap.size _ _ rfl (HO.later ?k1_1) (c.toNat : Int) _ _ rfl ?k2_1 ?k3_1 ?k4_1 ?_)
        try (case k1_1 => ((repeat (first | exact ext_refl _ | assumption | (refine ext_alloc ?_ _) | (refine ext_drewN ?_ _) | refine ext_drew ?_ | (refine ext_set (by first | (simp; done) | (simp; omega)) _ ?_) | (refine ext_trans ?_ (by assumption))))))
        try (case k2_1 => (simp [go_sem]))
        try (case k3_1 => (rw [List.length_map]; omega))
        try (case k4_1 => (have := HH.out.2.1.size; first | omega | (simp; omega)))
        intro v2 w2 HO2 hg2 hb2
        obtain ⟨vp2, vn2, vc2, rfl⟩ := HO2.slice
        have hbn : Below W.heap.size W w2 := Below.trans (ext_alloc HH.out.2.1 _) hb2
        go_wp2
        go_roundw
        case rel => exact ⟨j + 1, O ++ [c], by go_num, by omega, hlt, by rw [List.length_append]; simp; omega, by rw [toJ_app]; exact HO2, hbn, HN.out⟩
        case measure => simp [intOf] <;> omega
    · have hje : j = s.size := by omega
      have he : oneText (s.data.toList.drop (k + 1)) = .err 6 ((s.data.toList.drop (k + 1)).length + 1) := by
        unfold oneText
        rw [← HR0.out, HH.out.2.2, List.drop_eq_nil_of_le (by rw [hsl]; omega)]
        rfl
      rw [List.length_drop, hsl] at he
      have HE := Lib.hid he
      obtain ⟨c0, c1, c2, c3⟩ := And.intro RV.out.c0 (And.intro RV.out.c1 (And.intro RV.out.c2 RV.out.c3))
      obtain ⟨z0, z1, z2, z3⟩ := And.intro RV.out.z0 (And.intro RV.out.z1 (And.intro RV.out.z2 RV.out.z3))
      have f4 := RV.out.f4
      have f8 := RV.out.f8
      clear he
      go_wp2_with fail
      obtain ⟨X, hX⟩ : ∃ X, X = ((((V.setCell ⟨w.heap.size, 0, none⟩ (.int .i64 4)).setCell ⟨w.heap.size, 1, none⟩ (.int .i64 0)).setCell ⟨w.heap.size, 2, none⟩ (.int .i64 (k : Int))).setCell ⟨w.heap.size, 3, none⟩ (.string ⟨#[]⟩)) := ⟨_, rfl⟩
      obtain ⟨x0, x1, x2, x3, hbX⟩ := RV.out.back 4 0 k ⟨#[]⟩ X hX
      rw [← hX]
      clear hX
      refine bodyPost_ret (v := .tuple #[.agg #[.int .i64 4, .int .i64 0, .int .i64 (k : Int), .string ⟨#[]⟩], .int .i64 0, .int .i64 6, .int .i64 (s.size : Int)]) (by simp [results, Tryd.results12, go_sem, x0, x1, x2, x3]) rfl ⟨?_, hbX⟩
      rw [HE.out]
      exact ⟨4, 0, k, ⟨#[]⟩, by rw [show (s.size : Int) = ((k + (s.size - (k + 1) + 1) : Nat) : Int) by omega]; rfl⟩

end Go.Proofs.YtejfjlbnehdgnaaDoor
