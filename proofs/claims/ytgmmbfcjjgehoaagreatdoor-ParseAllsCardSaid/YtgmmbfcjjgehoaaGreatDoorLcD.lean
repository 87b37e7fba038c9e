/- A Text. -/
import Derived.Test.YtgmmbfcjjgehoaaGreatDoorLcC
import Derived.Test.YtgmmbfcjjgehoaaGreatDoorLxV
namespace Go.Proofs.YtgmmbfcjjgehoaaGreatDoor
open Go.RowKit
set_option maxRecDepth 100000

set_option maxHeartbeats 1000000 in
theorem ltextOf_any (O : Bs) (p : Option Addr) (n c : Nat) (u : Nat) (w : World) (base : Nat) (hO : OwnB w base (.slice p n c) (toJ O)) (hl : O.length ≤ 2000) :
    Calls Tryz.prog 73 #[.slice p n c, .int .i64 (u : Int)] w fun e w' => LRes (if 40 < O.length then .err 5 0 else .tok 4 0 O u) e ∧ Below w.heap.size w w' := by
  obtain rfl : n = O.length := by rw [OwnB.len hO, List.length_map]
  obtain ⟨m, hm⟩ : ∃ m, m = O.length := ⟨_, rfl⟩
  have kb : ∀ T : TypeId, (convert 44 9 (.slice p O.length c)).run Tryz.prog (w.alloc (.cells #[.int .i64 0, .int .i64 0, .int .i64 0, .string ⟨#[]⟩] T)) = .ok (.string (bsB O)) (w.alloc (.cells #[.int .i64 0, .int .i64 0, .int .i64 0, .string ⟨#[]⟩] T)) := fun T => conv_own (hO.later (ext_alloc (ext_refl _) _))
  obtain ⟨S, hS⟩ : ∃ S, S = bsB O := ⟨_, rfl⟩
  have HS := Lib.hid hS
  rw [← hm, ← hS] at kb
  rw [← hm]
  clear hO hS
  by_cases h40 : 40 < m
  · rw [if_pos h40]
    have q : (m : Int) > 40 := by omega
    clear hm
    go_enter Tryz.func73, Tryz.ntmps73
    go_wp2_with fail
    refine bodyPost_ret (v := .tuple #[.agg #[.int .i64 0, .int .i64 0, .int .i64 0, .string ⟨#[]⟩], .int .i64 0, .int .i64 5]) (by simp [results, Tryz.results73, go_sem]) rfl ⟨rfl, ?_⟩
    (repeat (first | exact ext_refl _ | assumption | (refine ext_alloc ?_ _) | (refine ext_drewN ?_ _) | refine ext_drew ?_ | (refine ext_set (by first | (simp; done) | (simp; omega)) _ ?_) | (refine ext_trans ?_ (by assumption))))
  · rw [if_neg h40]
    have q : ¬ (m : Int) > 40 := by omega
    clear hm
    go_enter Tryz.func73, Tryz.ntmps73
    go_wp2_with fail
    refine bodyPost_ret (v := .tuple #[.agg #[.int .i64 4, .int .i64 0, .int .i64 0, .string S], .int .i64 (u : Int), .int .i64 0]) (by simp [results, Tryz.results73, go_sem]) rfl ⟨by rw [HS.out]; rfl, ?_⟩
    (repeat (first | exact ext_refl _ | assumption | (refine ext_alloc ?_ _) | (refine ext_drewN ?_ _) | refine ext_drew ?_ | (refine ext_set (by first | (simp; done) | (simp; omega)) _ ?_) | (refine ext_trans ?_ (by assumption))))

set_option maxHeartbeats 4000000 in
theorem ltext_any (s : ByteArray) (w : World) (hs : s.size ≤ 2000) (r : Bs) (hr : s.data.toList = 39 :: r) :
    Calls Tryz.prog 50 #[.string s] w fun e w' => LRes (oneText r) e ∧ Below w.heap.size w w' := by
  have hsl : s.data.toList.length = s.size := Array.length_toList
  have h1 : 1 ≤ s.size := by rw [← hsl, hr]; simp
  have hrl : r.length + 1 = s.size := by rw [← hsl, hr]; simp
  have hr1 : r = s.data.toList.drop 1 := by rw [hr]; rfl
  clear hr
  have R0 := Lib.hid (TK.new w 0 0 0 ⟨#[]⟩ 62)
  obtain ⟨W, hW⟩ : ∃ W, W = w.alloc (.cells #[.int .i64 0, .int .i64 0, .int .i64 0, .string ⟨#[]⟩] 62) := ⟨_, rfl⟩
  rw [← hW] at R0
  have BW : Below w.heap.size w W := by rw [hW]; (repeat (first | exact ext_refl _ | assumption | (refine ext_alloc ?_ _) | (refine ext_drewN ?_ _) | refine ext_drew ?_ | (refine ext_set (by first | (simp; done) | (simp; omega)) _ ?_) | (refine ext_trans ?_ (by assumption))))
  have HB := Lib.hid BW
  go_enter Tryz.func50, Tryz.ntmps50
  go_wp2_with fail
  rw [← hW]
  clear hW BW
  obtain ⟨r0, hr0⟩ : ∃ r0, r0 = textOf r := ⟨_, rfl⟩
  have HR0 := Lib.hid hr0
  have HR1 := Lib.hid hr1
  clear hr0 hr1
  go_loopw [6, 5] (fun vj vo wr => ∃ (j : Nat) (O : Bs), vj = .int .i64 j ∧ 1 ≤ j ∧ j ≤ s.size ∧ O.length ≤ j ∧ Hid (OwnB wr W.heap.size vo (toJ O) ∧ Below W.heap.size W wr ∧ r0 = (textOf (s.data.toList.drop j)).map fun x => (O ++ x.1, x.2 + (j - 1)))) (fun vj _ _ => s.size - (intOf vj).toNat)
  case atStart => exact ⟨1, [], by go_num, by omega, by omega, by simp, OwnB.nil _ _, Below.refl _ _, by rw [HR0.out, HR1.out]; cases textOf (s.data.toList.drop 1) <;> rfl⟩
  case round =>
    obtain ⟨j, O, rfl, hj1, hj2, hO, HH⟩ := hrel
    obtain ⟨V, hV⟩ : ∃ V, V = wr := ⟨_, rfl⟩
    rw [← hV] at HH
    rw [← hV]
    clear hV
    have RV := Lib.hid (R0.out.on HH.out.2.1)
    by_cases hlt : j < s.size
    · obtain ⟨c, hc⟩ : ∃ c, s.data.toList[j]? = some c := ⟨_, List.getElem?_eq_getElem (by rw [hsl]; exact hlt)⟩
      obtain ⟨q4, q5⟩ := byt_data hc
      have ec := (byt_at s j q4).trans q5
      have hdc : s.data.toList.drop j = c :: s.data.toList.drop (j + 1) := by
        obtain ⟨h1, rfl⟩ := List.getElem?_eq_some_iff.1 hc
        exact List.drop_eq_getElem_cons h1
      by_cases h39 : c = 39
      · subst h39
        have ec2 : ((s[j]'q4).toNat : Int) = 39 := ec
        clear ec
        have HO := HH.out.1
        by_cases hj1s : j + 1 < s.size
        · obtain ⟨d, hd⟩ : ∃ d, s.data.toList[j + 1]? = some d := ⟨_, List.getElem?_eq_getElem (by rw [hsl]; exact hj1s)⟩
          obtain ⟨e4, e5⟩ := byt_data hd
          have ed := (byt_at s (j + 1) e4).trans e5
          have hne : ((j : Int) + 1 == (s.size : Int)) = false := by rw [beq_eq_false_iff_ne]; omega
          have hdd : s.data.toList.drop (j + 1) = d :: s.data.toList.drop (j + 2) := by
            obtain ⟨h1, rfl⟩ := List.getElem?_eq_some_iff.1 hd
            exact List.drop_eq_getElem_cons h1
          clear hd e5
          by_cases hd39 : d = 39
          · subst hd39
            have ed2 : ((s[j + 1]'e4).toNat : Int) = 39 := ed
            clear ed
            have hnext : r0 = (textOf (s.data.toList.drop (j + 2))).map fun x => (O ++ [39] ++ x.1, x.2 + (j + 2 - 1)) := by
              rw [HH.out.2.2, hdc, hdd, textOf_two, if_pos rfl, if_pos rfl]
              cases textOf (s.data.toList.drop (j + 2)) with
              | none => rfl
              | some x =>
                simp only [Option.map_some, List.append_assoc, List.singleton_append]
                rw [show x.2 + 2 + (j - 1) = x.2 + (j + 2 - 1) by omega]
            have HN := Lib.hid hnext
            obtain ⟨vp, vn, vc, rfl⟩ := HO.slice
            clear hnext hdc hc q5 hdd
            go_wp2_with (at_builtin; refine wp_append_byte2 rfl _ _ rfl W.heap.size _ _ rfl (HO.later ?k1_2) 39 _ _ rfl ?k2_2 ?k3_2 ?k4_2 ?_)
            try (case k1_2 => ((repeat (first | exact ext_refl _ | assumption | (refine ext_alloc ?_ _) | (refine ext_drewN ?_ _) | refine ext_drew ?_ | (refine ext_set (by first | (simp; done) | (simp; omega)) _ ?_) | (refine ext_trans ?_ (by assumption))))))
            try (case k2_2 => (simp [go_sem]))
            try (case k3_2 => (rw [List.length_map]; omega))
            try (case k4_2 => (have := HH.out.2.1.size; first | omega | (simp; omega)))
            intro v2 w2 HO2 hg2 hb2
            obtain ⟨vp2, vn2, vc2, rfl⟩ := HO2.slice
            have hbn : Below W.heap.size W w2 := Below.trans (ext_alloc HH.out.2.1 _) hb2
            go_wp2
            go_roundw
            case rel => exact ⟨j + 2, O ++ [39], by go_num, by omega, by omega, by rw [List.length_append]; simp; omega, by rw [toJ_app]; exact HO2, hbn, HN.out⟩
            case measure => simp [intOf] <;> omega
          · have m2 : ((d.toNat : Int) == 39) = false := by
              rw [beq_eq_false_iff_ne]
              intro h
              exact hd39 (UInt8.toNat_inj.1 (by have : d.toNat = 39 := (by omega); rw [this]; rfl))
            have hbrk : textOf (s.data.toList.drop j) = some ([], 1) := by rw [hdc, hdd, textOf_two, if_pos rfl, if_neg hd39]
            clear hd39 hdd
            have HO := HH.out.1
            obtain ⟨vp, vn, vc, rfl⟩ := HO.slice
            have hr : textOf r = some (O, j) := by rw [← HR0.out, HH.out.2.2, hbrk]; simp; omega
            have HRR := Lib.hid hr
            have CT := Lib.hid (ltextOf_any O vp vn vc (j + 1) V W.heap.size HO (by omega))
            have he : oneText r = if 40 < O.length then .err 5 0 else .tok 4 0 O (j + 1) := by unfold oneText; rw [HRR.out]
            have HE := Lib.hid he
            clear hr hbrk HO hdc hc q5 he
            have hbF : Below w.heap.size w V := HB.out.trans (HH.out.2.1.mono HB.out.size)
            have HBF := Lib.hid hbF
            clear hbF
            by_cases h40 : 40 < O.length
            · rw [if_pos h40] at CT HE
              clear h40
              go_wp2_with fail
              refine (CT.out).mono ?_
              rintro e w2 ⟨rfl, hb2⟩
              obtain ⟨lt, z0, z1, z2, z3, fz⟩ := RV.out.on hb2
              go_wp2_with fail
              refine bodyPost_ret (v := .tuple #[.agg #[.int .i64 0, .int .i64 0, .int .i64 0, .string ⟨#[]⟩], .int .i64 0, .int .i64 5]) (by simp [results, Tryz.results50, go_sem, *]) rfl ⟨by rw [HE.out]; rfl, ?_⟩
              have hbG := ext_trans HBF.out hb2
              (repeat (first | exact ext_refl _ | assumption | (refine ext_alloc ?_ _) | (refine ext_drewN ?_ _) | refine ext_drew ?_ | (refine ext_set (by first | (simp; done) | (simp; omega)) _ ?_) | (refine ext_trans ?_ (by assumption))))
            · rw [if_neg h40] at CT HE
              clear h40
              go_wp2_with fail
              refine (CT.out).mono ?_
              rintro e w2 ⟨rfl, hb2⟩
              obtain ⟨lt, z0, z1, z2, z3, fz⟩ := RV.out.on hb2
              go_wp2_with fail
              refine bodyPost_ret (v := .tuple #[.agg #[.int .i64 4, .int .i64 0, .int .i64 0, .string (bsB O)], .int .i64 ((j : Int) + 1), .int .i64 0]) (by simp [results, Tryz.results50, go_sem, *]) rfl ⟨by rw [HE.out]; exact LRes.tok_of (by omega), ?_⟩
              have hbG := ext_trans HBF.out hb2
              (repeat (first | exact ext_refl _ | assumption | (refine ext_alloc ?_ _) | (refine ext_drewN ?_ _) | refine ext_drew ?_ | (refine ext_set (by first | (simp; done) | (simp; omega)) _ ?_) | (refine ext_trans ?_ (by assumption))))
        · have hje : ((j : Int) + 1 == (s.size : Int)) = true := by rw [beq_iff_eq]; omega
          have hbrk : textOf (s.data.toList.drop j) = some ([], 1) := by
            rw [hdc, List.drop_eq_nil_of_le (by rw [hsl]; omega)]
            rfl
          have HO := HH.out.1
          obtain ⟨vp, vn, vc, rfl⟩ := HO.slice
          have hr : textOf r = some (O, j) := by rw [← HR0.out, HH.out.2.2, hbrk]; simp; omega
          have HRR := Lib.hid hr
          have CT := Lib.hid (ltextOf_any O vp vn vc (j + 1) V W.heap.size HO (by omega))
          have he : oneText r = if 40 < O.length then .err 5 0 else .tok 4 0 O (j + 1) := by unfold oneText; rw [HRR.out]
          have HE := Lib.hid he
          clear hr hbrk HO hdc hc q5 he
          have hbF : Below w.heap.size w V := HB.out.trans (HH.out.2.1.mono HB.out.size)
          have HBF := Lib.hid hbF
          clear hbF
          by_cases h40 : 40 < O.length
          · rw [if_pos h40] at CT HE
            clear h40
            go_wp2_with fail
            refine (CT.out).mono ?_
            rintro e w2 ⟨rfl, hb2⟩
            obtain ⟨lt, z0, z1, z2, z3, fz⟩ := RV.out.on hb2
            go_wp2_with fail
            refine bodyPost_ret (v := .tuple #[.agg #[.int .i64 0, .int .i64 0, .int .i64 0, .string ⟨#[]⟩], .int .i64 0, .int .i64 5]) (by simp [results, Tryz.results50, go_sem, *]) rfl ⟨by rw [HE.out]; rfl, ?_⟩
            have hbG := ext_trans HBF.out hb2
            (repeat (first | exact ext_refl _ | assumption | (refine ext_alloc ?_ _) | (refine ext_drewN ?_ _) | refine ext_drew ?_ | (refine ext_set (by first | (simp; done) | (simp; omega)) _ ?_) | (refine ext_trans ?_ (by assumption))))
          · rw [if_neg h40] at CT HE
            clear h40
            go_wp2_with fail
            refine (CT.out).mono ?_
            rintro e w2 ⟨rfl, hb2⟩
            obtain ⟨lt, z0, z1, z2, z3, fz⟩ := RV.out.on hb2
            go_wp2_with fail
            refine bodyPost_ret (v := .tuple #[.agg #[.int .i64 4, .int .i64 0, .int .i64 0, .string (bsB O)], .int .i64 ((j : Int) + 1), .int .i64 0]) (by simp [results, Tryz.results50, go_sem, *]) rfl ⟨by rw [HE.out]; exact LRes.tok_of (by omega), ?_⟩
            have hbG := ext_trans HBF.out hb2
            (repeat (first | exact ext_refl _ | assumption | (refine ext_alloc ?_ _) | (refine ext_drewN ?_ _) | refine ext_drew ?_ | (refine ext_set (by first | (simp; done) | (simp; omega)) _ ?_) | (refine ext_trans ?_ (by assumption))))
      · have m1 : ((c.toNat : Int) == 39) = false := by
          rw [beq_eq_false_iff_ne]
          intro h
          exact h39 (UInt8.toNat_inj.1 (by have : c.toNat = 39 := (by omega); rw [this]; rfl))
        have hnext : r0 = (textOf (s.data.toList.drop (j + 1))).map fun x => (O ++ [c] ++ x.1, x.2 + (j + 1 - 1)) := by
          rw [HH.out.2.2, hdc, textOf_step h39]
          cases textOf (s.data.toList.drop (j + 1)) with
          | none => rfl
          | some x =>
            simp only [Option.map_some, List.append_assoc, List.singleton_append]
            rw [show x.2 + 1 + (j - 1) = x.2 + (j + 1 - 1) by omega]
        have HN := Lib.hid hnext
        have HO := HH.out.1
        obtain ⟨vp, vn, vc, rfl⟩ := HO.slice
        clear hnext hdc hc q5 h39
        go_wp2_with (at_builtin; refine wp_append_byte2 rfl _ _ rfl W.heap.size _ _ rfl (HO.later ?k1_1) (c.toNat : Int) _ _ rfl ?k2_1 ?k3_1 ?k4_1 ?_)
        try (case k1_1 => ((repeat (first | exact ext_refl _ | assumption | (refine ext_alloc ?_ _) | (refine ext_drewN ?_ _) | refine ext_drew ?_ | (refine ext_set (by first | (simp; done) | (simp; omega)) _ ?_) | (refine ext_trans ?_ (by assumption))))))
        try (case k2_1 => (simp [go_sem]))
        try (case k3_1 => (rw [List.length_map]; omega))
        try (case k4_1 => (have := HH.out.2.1.size; first | omega | (simp; omega)))
        intro v2 w2 HO2 hg2 hb2
        obtain ⟨vp2, vn2, vc2, rfl⟩ := HO2.slice
        have hbn : Below W.heap.size W w2 := Below.trans (ext_alloc HH.out.2.1 _) hb2
        go_wp2
        go_roundw
        case rel => exact ⟨j + 1, O ++ [c], by go_num, by omega, hlt, by rw [List.length_append]; simp; omega, by rw [toJ_app]; exact HO2, hbn, HN.out⟩
        case measure => simp [intOf] <;> omega
    · have hje : j = s.size := by omega
      have he : oneText r = .err 6 s.size := by
        unfold oneText
        rw [← HR0.out, HH.out.2.2, List.drop_eq_nil_of_le (by rw [hsl]; omega), ← hrl]
        rfl
      have HE := Lib.hid he
      obtain ⟨lt, z0, z1, z2, z3, fz⟩ := RV.out
      have hbV := HH.out.2.1
      clear he
      go_wp2_with fail
      refine bodyPost_ret (v := .tuple #[.agg #[.int .i64 0, .int .i64 0, .int .i64 0, .string ⟨#[]⟩], .int .i64 (s.size : Int), .int .i64 6]) (by simp [results, Tryz.results50, go_sem, *]) rfl ⟨by rw [HE.out]; rfl, ?_⟩
      have hbF : Below w.heap.size w V := HB.out.trans (hbV.mono HB.out.size)
      (repeat (first | exact ext_refl _ | assumption | (refine ext_alloc ?_ _) | (refine ext_drewN ?_ _) | refine ext_drew ?_ | (refine ext_set (by first | (simp; done) | (simp; omega)) _ ?_) | (refine ext_trans ?_ (by assumption))))

end Go.Proofs.YtgmmbfcjjgehoaaGreatDoor
