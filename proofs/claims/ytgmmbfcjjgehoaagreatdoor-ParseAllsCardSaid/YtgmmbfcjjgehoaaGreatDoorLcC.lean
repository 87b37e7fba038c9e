/- A Param; a Sign. -/
import Derived.Test.YtgmmbfcjjgehoaaGreatDoorLcB
namespace Go.Proofs.YtgmmbfcjjgehoaaGreatDoor
open Go.RowKit
set_option maxRecDepth 100000

theorem mid_data (s : ByteArray) (i k : Nat) : (s.extract i k).data.toList = (s.data.toList.drop i).take (k - i) := by
  rw [ByteArray.data_extract, Array.toList_extract, List.extract_eq_take_drop]
theorem rest_data (s : ByteArray) (i : Nat) : (s.extract i s.size).data.toList = s.data.toList.drop i := by
  rw [mid_data, List.take_of_length_le (by rw [List.length_drop, Array.length_toList]; exact Nat.le_refl _)]

set_option maxHeartbeats 1000000 in
theorem lparam_any (s : ByteArray) (w : World) (hG : GV w) (hs : s.size ≤ 2000) (r : Bs) (hr : s.data.toList = 36 :: r) :
    Calls Tryz.prog 51 #[.string s] w fun e w' => LRes (onePar r) e ∧ Below w.heap.size w w' := by
  have hsl : s.data.toList.length = s.size := Array.length_toList
  have hlen := takeWhile_le isDigit r
  have h1 : 1 ≤ s.size := by rw [← hsl, hr]; simp
  have hrl : r.length + 1 = s.size := by rw [← hsl, hr]; simp
  obtain ⟨D, hD⟩ : ∃ D, D = r.takeWhile isDigit := ⟨_, rfl⟩
  have hD2 : ∀ b ∈ D, isDigit b = true := fun b h => while_all (by rw [← hD]; exact h)
  obtain ⟨k, hk⟩ : ∃ k, k = D.length := ⟨_, rfl⟩
  have hks : k + 1 ≤ s.size := by rw [hk, hD]; omega
  have hy0 : (s.extract 1 s.size).data.toList = r := by rw [rest_data, hr]; rfl
  have hys : (s.extract 1 s.size).size ≤ 2000 := by rw [← show (s.extract 1 s.size).data.toList.length = (s.extract 1 s.size).size from Array.length_toList, hy0]; omega
  have C0 := Lib.hid (fun W => span_digit (s.extract 1 s.size) W hys)
  rw [hy0, ← hD, ← hk] at C0
  have hex : (s.extract 1 (1 + k)).data.toList = D := by rw [mid_data, hr, List.drop_succ_cons, List.drop_zero, Nat.add_sub_cancel_left, hk, hD, take_while]
  have hexs : (s.extract 1 (1 + k)).size ≤ 2000 := by rw [← show (s.extract 1 (1 + k)).data.toList.length = (s.extract 1 (1 + k)).size from Array.length_toList, hex, ← hk]; omega
  have HO : onePar r = if D = [] then .err 6 0 else if numOf D < 1 ∨ 4 < numOf D then .err 5 0 else .tok 5 (numOf D) [] (k + 1) := by unfold onePar; rw [← hD, hk]
  obtain ⟨y, hy⟩ : ∃ y, y = s.extract 1 s.size := ⟨_, rfl⟩
  have HY := Lib.hid hy
  rw [← hy] at C0
  obtain ⟨x, hx⟩ : ∃ x, x = s.extract 1 (1 + k) := ⟨_, rfl⟩
  have HX := Lib.hid hx
  rw [← hx] at hex hexs
  clear hsl hlen hD hy0 hys hy hx hr hrl
  by_cases hn : D = []
  · rw [HO, if_pos hn]
    have hk0 : k = 0 := by rw [hk, hn]; rfl
    subst hk0
    clear HO hn hk hD2 hex hexs HX
    go_enter Tryz.func51, Tryz.ntmps51
    go_wp2_with fail
    rw [← HY.out]
    refine (C0.out _).mono ?_
    rintro e w1 ⟨rfl, rfl⟩
    go_wp2_with fail
    refine bodyPost_ret (v := .tuple #[.agg #[.int .i64 0, .int .i64 0, .int .i64 0, .string ⟨#[]⟩], .int .i64 0, .int .i64 6]) (by simp [results, Tryz.results51, go_sem, *]) rfl ⟨rfl, ?_⟩
    (repeat (first | exact ext_refl _ | assumption | (refine ext_alloc ?_ _) | (refine ext_drewN ?_ _) | refine ext_drew ?_ | (refine ext_set (by first | (simp; done) | (simp; omega)) _ ?_) | (refine ext_trans ?_ (by assumption))))
  · rw [if_neg hn] at HO
    have hk1 : ((k : Int) == 0) = false := by
      rw [beq_eq_false_iff_ne]
      intro h
      exact hn (List.length_eq_zero_iff.1 (by omega))
    clear hk
    by_cases hover : 9223372036854775807 < numOf D
    · rw [HO, if_pos (.inr (by omega))]
      have CA := fun W hW => atoi_big x D hex W hW hexs hD2 hn hover
      clear HO hover hD2 hex hn
      go_enter Tryz.func51, Tryz.ntmps51
      go_wp2_with fail
      rw [← HY.out]
      refine (C0.out _).mono ?_
      rintro e w1 ⟨rfl, rfl⟩
      go_wp2_with fail
      rw [← HX.out]
      refine (CA _ (hG.alloc _)).mono ?_
      rintro e w2 ⟨⟨n, N, rfl⟩, hb2⟩
      obtain ⟨lt, z0, z1, z2, z3, fz⟩ := (TK.new w 0 0 0 ⟨#[]⟩ 62).on hb2
      go_wp2_with fail
      refine bodyPost_ret (v := .tuple #[.agg #[.int .i64 0, .int .i64 0, .int .i64 0, .string ⟨#[]⟩], .int .i64 0, .int .i64 5]) (by simp [results, Tryz.results51, go_sem, *]) rfl ⟨rfl, ?_⟩
      (repeat (first | exact ext_refl _ | assumption | (refine ext_alloc ?_ _) | (refine ext_drewN ?_ _) | refine ext_drew ?_ | (refine ext_set (by first | (simp; done) | (simp; omega)) _ ?_) | (refine ext_trans ?_ (by assumption))))
    · have CA := fun W => atoi_ok x D hex W hexs hD2 hn (by omega)
      obtain ⟨m, hm⟩ : ∃ m, m = numOf D := ⟨_, rfl⟩
      rw [← hm] at CA HO hover
      clear hD2 hex hm hn
      by_cases h1 : m < 1
      · rw [HO, if_pos (.inl h1)]
        have d1 : (m : Int) < 1 := by omega
        clear HO hover h1
        go_enter Tryz.func51, Tryz.ntmps51
        go_wp2_with fail
        rw [← HY.out]
        refine (C0.out _).mono ?_
        rintro e w1 ⟨rfl, rfl⟩
        go_wp2_with fail
        rw [← HX.out]
        refine (CA _).mono ?_
        rintro e w2 ⟨rfl, hb2⟩
        obtain ⟨lt, z0, z1, z2, z3, fz⟩ := (TK.new w 0 0 0 ⟨#[]⟩ 62).on hb2
        go_wp2_with fail
        refine bodyPost_ret (v := .tuple #[.agg #[.int .i64 0, .int .i64 0, .int .i64 0, .string ⟨#[]⟩], .int .i64 0, .int .i64 5]) (by simp [results, Tryz.results51, go_sem, *]) rfl ⟨rfl, ?_⟩
        (repeat (first | exact ext_refl _ | assumption | (refine ext_alloc ?_ _) | (refine ext_drewN ?_ _) | refine ext_drew ?_ | (refine ext_set (by first | (simp; done) | (simp; omega)) _ ?_) | (refine ext_trans ?_ (by assumption))))
      · have d1 : ¬ (m : Int) < 1 := by omega
        by_cases h4 : 4 < m
        · rw [HO, if_pos (.inr h4)]
          have d4 : (m : Int) > 4 := by omega
          clear HO hover h1 h4
          go_enter Tryz.func51, Tryz.ntmps51
          go_wp2_with fail
          rw [← HY.out]
          refine (C0.out _).mono ?_
          rintro e w1 ⟨rfl, rfl⟩
          go_wp2_with fail
          rw [← HX.out]
          refine (CA _).mono ?_
          rintro e w2 ⟨rfl, hb2⟩
          obtain ⟨lt, z0, z1, z2, z3, fz⟩ := (TK.new w 0 0 0 ⟨#[]⟩ 62).on hb2
          go_wp2_with fail
          refine bodyPost_ret (v := .tuple #[.agg #[.int .i64 0, .int .i64 0, .int .i64 0, .string ⟨#[]⟩], .int .i64 0, .int .i64 5]) (by simp [results, Tryz.results51, go_sem, *]) rfl ⟨rfl, ?_⟩
          (repeat (first | exact ext_refl _ | assumption | (refine ext_alloc ?_ _) | (refine ext_drewN ?_ _) | refine ext_drew ?_ | (refine ext_set (by first | (simp; done) | (simp; omega)) _ ?_) | (refine ext_trans ?_ (by assumption))))
        · rw [HO, if_neg (by omega)]
          have d4 : ¬ (m : Int) > 4 := by omega
          clear HO hover h1 h4
          go_enter Tryz.func51, Tryz.ntmps51
          go_wp2_with fail
          rw [← HY.out]
          refine (C0.out _).mono ?_
          rintro e w1 ⟨rfl, rfl⟩
          go_wp2_with fail
          rw [← HX.out]
          refine (CA _).mono ?_
          rintro e w2 ⟨rfl, hb2⟩
          obtain ⟨lt, z0, z1, z2, z3, fz⟩ := (TK.new w 0 0 0 ⟨#[]⟩ 62).on hb2
          go_wp2_with fail
          refine bodyPost_ret (v := .tuple #[.agg #[.int .i64 5, .int .i64 (m : Int), .int .i64 0, .string ⟨#[]⟩], .int .i64 (1 + (k : Int)), .int .i64 0]) (by simp [results, Tryz.results51, go_sem, *]) rfl ⟨LRes.tok_of (by omega), ?_⟩
          (repeat (first | exact ext_refl _ | assumption | (refine ext_alloc ?_ _) | (refine ext_drewN ?_ _) | refine ext_drew ?_ | (refine ext_set (by first | (simp; done) | (simp; omega)) _ ?_) | (refine ext_trans ?_ (by assumption))))

end Go.Proofs.YtgmmbfcjjgehoaaGreatDoor
