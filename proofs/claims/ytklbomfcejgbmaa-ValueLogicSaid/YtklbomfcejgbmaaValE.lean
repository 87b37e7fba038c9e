/- The chapter's examples, of which each law asks first: they are so. -/
import Derived.Test.YtklbomfcejgbmaaValC
import Derived.Test.YtklbomfcejgbmaaValF
import Derived.Test.YtklbomfcejgbmaaValD
namespace Go.Proofs.Ytklbomfcejgbmaa
open Go.RowKit

theorem ex1 : arith 4 (num 9223372036854775807) (num 1) = (nul, 3) := by simp [arith, Val.nullOr, Val.right, comp, inR]
theorem ex2 : arith 7 (num (-7)) (num 2) = (num (-3), 0) := by simp [arith, Val.nullOr, Val.right, comp, inR]
theorem ex3 : arith 7 (num 1) (num 0) = (nul, 4) := by simp [arith, Val.nullOr, Val.right]
theorem ex4 : arith 7 nul (num 0) = (nul, 0) := by simp [arith, Val.nullOr, Val.right]
theorem ex5 : conn 0 1 nul (tru 0) = (tru 0, 0) := by simp [conn, Val.nullOr, Val.right]
theorem ex6 : conn 1 0 nul (tru 0) = (nul, 0) := by simp [conn, Val.nullOr, Val.right]
theorem ex7 : Val.right (tru 1) = true := by simp [Val.right]
theorem ex8 : Val.cmp (num 1) (tru 0) = -1 := by simp [Val.cmp, or3, ordI]

set_option maxHeartbeats 2000000 in
theorem examples_any (w : World) : Calls Try.prog 10 #[] w fun e w' => e = .returned (.bool true) ∧ Below w.heap.size w w' := by
  go_enter Try.func10, Try.ntmps10
  have E0 := ext_refl w
  go_wp2_with fail
  refine (n_any _ _).mono ?_
  rintro e W1 ⟨rfl, hb1⟩
  have E0 := ext_trans (E0) hb1
  go_wp2_with fail
  refine (n_any _ _).mono ?_
  rintro e W2 ⟨rfl, hb2⟩
  have E0 := ext_trans (E0) hb2
  go_wp2_with fail
  refine (add_any (num 9223372036854775807) (num 1) _ (by decide) (by decide)).mono ?_
  rintro e W3 ⟨rfl, hb3⟩
  rw [ex1]
  have E0 := ext_trans (E0) hb3
  have E1 := ext_refl (W3.alloc (.cells #[.int .i64 0, .int .i64 0, .string ⟨#[]⟩] 23))
  go_wp2_with fail
  refine (n_any _ _).mono ?_
  rintro e W4 ⟨rfl, hb4⟩
  have E0 := ext_trans (ext_alloc E0 _) hb4
  have E1 := ext_trans (E1) hb4
  go_wp2_with fail
  refine (n_any _ _).mono ?_
  rintro e W5 ⟨rfl, hb5⟩
  have E0 := ext_trans (E0) hb5
  have E1 := ext_trans (E1) hb5
  go_wp2_with fail
  refine (div_any (num (-7)) (num 2) _ (by decide) (by decide)).mono ?_
  rintro e W6 ⟨rfl, hb6⟩
  rw [ex2]
  have E0 := ext_trans (E0) hb6
  have E1 := ext_trans (E1) hb6
  have E2 := ext_refl (W6.alloc (.cells #[.int .i64 1, .int .i64 (-3), .string ⟨#[]⟩] 23))
  go_wp2_with fail
  refine (n_any _ _).mono ?_
  rintro e W7 ⟨rfl, hb7⟩
  have E0 := ext_trans (ext_alloc E0 _) hb7
  have E1 := ext_trans (ext_alloc E1 _) hb7
  have E2 := ext_trans (E2) hb7
  go_wp2_with fail
  refine (n_any _ _).mono ?_
  rintro e W8 ⟨rfl, hb8⟩
  have E0 := ext_trans (E0) hb8
  have E1 := ext_trans (E1) hb8
  have E2 := ext_trans (E2) hb8
  go_wp2_with fail
  refine (div_any (num 1) (num 0) _ (by decide) (by decide)).mono ?_
  rintro e W9 ⟨rfl, hb9⟩
  rw [ex3]
  have E0 := ext_trans (E0) hb9
  have E1 := ext_trans (E1) hb9
  have E2 := ext_trans (E2) hb9
  have E3 := ext_refl (W9.alloc (.cells #[.int .i64 0, .int .i64 0, .string ⟨#[]⟩] 23))
  go_wp2_with fail
  refine (n_any _ _).mono ?_
  rintro e W10 ⟨rfl, hb10⟩
  have E0 := ext_trans (ext_alloc E0 _) hb10
  have E1 := ext_trans (ext_alloc E1 _) hb10
  have E2 := ext_trans (ext_alloc E2 _) hb10
  have E3 := ext_trans (E3) hb10
  go_wp2_with fail
  refine (div_any nul (num 0) _ (by decide) (by decide)).mono ?_
  rintro e W11 ⟨rfl, hb11⟩
  rw [ex4]
  have E0 := ext_trans (E0) hb11
  have E1 := ext_trans (E1) hb11
  have E2 := ext_trans (E2) hb11
  have E3 := ext_trans (E3) hb11
  have E4 := ext_refl (W11.alloc (.cells #[.int .i64 0, .int .i64 0, .string ⟨#[]⟩] 23))
  go_wp2_with fail
  refine (t_any _ _).mono ?_
  rintro e W12 ⟨rfl, hb12⟩
  have E0 := ext_trans (ext_alloc E0 _) hb12
  have E1 := ext_trans (ext_alloc E1 _) hb12
  have E2 := ext_trans (ext_alloc E2 _) hb12
  have E3 := ext_trans (ext_alloc E3 _) hb12
  have E4 := ext_trans (E4) hb12
  go_wp2_with fail
  refine (and_any nul (tru 0) _).mono ?_
  rintro e W13 ⟨rfl, hb13⟩
  rw [ex5]
  have E0 := ext_trans (E0) hb13
  have E1 := ext_trans (E1) hb13
  have E2 := ext_trans (E2) hb13
  have E3 := ext_trans (E3) hb13
  have E4 := ext_trans (E4) hb13
  have E5 := ext_refl (W13.alloc (.cells #[.int .i64 2, .int .i64 0, .string ⟨#[]⟩] 23))
  go_wp2_with fail
  refine (t_any _ _).mono ?_
  rintro e W14 ⟨rfl, hb14⟩
  have E0 := ext_trans (ext_alloc E0 _) hb14
  have E1 := ext_trans (ext_alloc E1 _) hb14
  have E2 := ext_trans (ext_alloc E2 _) hb14
  have E3 := ext_trans (ext_alloc E3 _) hb14
  have E4 := ext_trans (ext_alloc E4 _) hb14
  have E5 := ext_trans (E5) hb14
  go_wp2_with fail
  refine (or_any nul (tru 0) _).mono ?_
  rintro e W15 ⟨rfl, hb15⟩
  rw [ex6]
  have E0 := ext_trans (E0) hb15
  have E1 := ext_trans (E1) hb15
  have E2 := ext_trans (E2) hb15
  have E3 := ext_trans (E3) hb15
  have E4 := ext_trans (E4) hb15
  have E5 := ext_trans (E5) hb15
  go_wp2_with fail
  have s2 : W6.heap.size < W15.heap.size := Nat.lt_of_lt_of_le (by simp) E2.size
  have s4 : W11.heap.size < W15.heap.size := Nat.lt_of_lt_of_le (by simp) E4.size
  have s5 : W13.heap.size < W15.heap.size := Nat.lt_of_lt_of_le (by simp) E5.size
  have c20 : (W15.alloc (.cells #[.int .i64 0, .int .i64 0, .string ⟨#[]⟩] 23)).cell? ⟨W6.heap.size, 0, none⟩ = some (.int .i64 1) :=
    (World.cell?_alloc_lt _ _ _ s2).trans ((E2.cell (p := ⟨W6.heap.size, 0, none⟩) (by simp)).trans (by simp [go_sem]))
  have c21 : (W15.alloc (.cells #[.int .i64 0, .int .i64 0, .string ⟨#[]⟩] 23)).cell? ⟨W6.heap.size, 1, none⟩ = some (.int .i64 (-3)) :=
    (World.cell?_alloc_lt _ _ _ s2).trans ((E2.cell (p := ⟨W6.heap.size, 1, none⟩) (by simp)).trans (by simp [go_sem]))
  have c22 : (W15.alloc (.cells #[.int .i64 0, .int .i64 0, .string ⟨#[]⟩] 23)).cell? ⟨W6.heap.size, 2, none⟩ = some (.string ⟨#[]⟩) :=
    (World.cell?_alloc_lt _ _ _ s2).trans ((E2.cell (p := ⟨W6.heap.size, 2, none⟩) (by simp)).trans (by simp [go_sem]))
  have c40 : (W15.alloc (.cells #[.int .i64 0, .int .i64 0, .string ⟨#[]⟩] 23)).cell? ⟨W11.heap.size, 0, none⟩ = some (.int .i64 0) :=
    (World.cell?_alloc_lt _ _ _ s4).trans ((E4.cell (p := ⟨W11.heap.size, 0, none⟩) (by simp)).trans (by simp [go_sem]))
  have c50 : (W15.alloc (.cells #[.int .i64 0, .int .i64 0, .string ⟨#[]⟩] 23)).cell? ⟨W13.heap.size, 0, none⟩ = some (.int .i64 2) :=
    (World.cell?_alloc_lt _ _ _ s5).trans ((E5.cell (p := ⟨W13.heap.size, 0, none⟩) (by simp)).trans (by simp [go_sem]))
  have c51 : (W15.alloc (.cells #[.int .i64 0, .int .i64 0, .string ⟨#[]⟩] 23)).cell? ⟨W13.heap.size, 1, none⟩ = some (.int .i64 0) :=
    (World.cell?_alloc_lt _ _ _ s5).trans ((E5.cell (p := ⟨W13.heap.size, 1, none⟩) (by simp)).trans (by simp [go_sem]))
  have c52 : (W15.alloc (.cells #[.int .i64 0, .int .i64 0, .string ⟨#[]⟩] 23)).cell? ⟨W13.heap.size, 2, none⟩ = some (.string ⟨#[]⟩) :=
    (World.cell?_alloc_lt _ _ _ s5).trans ((E5.cell (p := ⟨W13.heap.size, 2, none⟩) (by simp)).trans (by simp [go_sem]))
  have c60 : (W15.alloc (.cells #[.int .i64 0, .int .i64 0, .string ⟨#[]⟩] 23)).cell? ⟨W15.heap.size, 0, none⟩ = some (.int .i64 0) := by simp [go_sem]
  have z2 : W6.heap.size < (W15.alloc (.cells #[.int .i64 0, .int .i64 0, .string ⟨#[]⟩] 23)).heap.size := by simp; omega
  have z4 : W11.heap.size < (W15.alloc (.cells #[.int .i64 0, .int .i64 0, .string ⟨#[]⟩] 23)).heap.size := by simp; omega
  have z5 : W13.heap.size < (W15.alloc (.cells #[.int .i64 0, .int .i64 0, .string ⟨#[]⟩] 23)).heap.size := by simp; omega
  have z6 : W15.heap.size < (W15.alloc (.cells #[.int .i64 0, .int .i64 0, .string ⟨#[]⟩] 23)).heap.size := by simp
  have EG : Below w.heap.size w (W15.alloc (.cells #[.int .i64 0, .int .i64 0, .string ⟨#[]⟩] 23)) := ext_alloc E0 _
  clear E0 E1 E2 E3 E4 E5 s2 s4 s5 hb1 hb2 hb3 hb4 hb5 hb6 hb7 hb8 hb9 hb10 hb11 hb12 hb13 hb14 hb15
  generalize W15.alloc (.cells #[.int .i64 0, .int .i64 0, .string ⟨#[]⟩] 23) = G at *
  generalize W6.heap.size = b2 at *
  generalize W11.heap.size = b4 at *
  generalize W13.heap.size = b5 at *
  generalize W15.heap.size = b6 at *
  go_region_held3 (fun w' => b2 < w'.heap.size ∧ b4 < w'.heap.size ∧ b5 < w'.heap.size ∧ b6 < w'.heap.size ∧ w'.cell? ⟨b2, 0, none⟩ = some (.int .i64 1) ∧ w'.cell? ⟨b2, 1, none⟩ = some (.int .i64 (-3)) ∧ w'.cell? ⟨b2, 2, none⟩ = some (.string ⟨#[]⟩) ∧ w'.cell? ⟨b4, 0, none⟩ = some (.int .i64 0) ∧ w'.cell? ⟨b5, 0, none⟩ = some (.int .i64 2) ∧ w'.cell? ⟨b5, 1, none⟩ = some (.int .i64 0) ∧ w'.cell? ⟨b5, 2, none⟩ = some (.string ⟨#[]⟩) ∧ w'.cell? ⟨b6, 0, none⟩ = some (.int .i64 0))
    (go_keep) (first | (go_at_call 33; go_must (refine (n_any _ _).mono ?_; rintro e w1 ⟨rfl, hb⟩; obtain ⟨hc, hz, hf⟩ := kept hb; (try simp only [World.size_drew, World.cell?_drew, World.frozen?_drew] at hc hz hf))) | (go_at_call 34; go_must (refine (t_any _ _).mono ?_; rintro e w1 ⟨rfl, hb⟩; obtain ⟨hc, hz, hf⟩ := kept hb; (try simp only [World.size_drew, World.cell?_drew, World.frozen?_drew] at hc hz hf))) | (go_at_call 29; go_must (refine (right_any (tru 1) _).mono ?_; rintro e w1 ⟨rfl, hb⟩; obtain ⟨hc, hz, hf⟩ := kept hb; (try simp only [World.size_drew, World.cell?_drew, World.frozen?_drew] at hc hz hf); rw [ex7])) | (go_at_call 31; go_must (refine (compare_any (num 1) (tru 0) _).mono ?_; rintro e w1 ⟨rfl, hb⟩; obtain ⟨hc, hz, hf⟩ := kept hb; (try simp only [World.size_drew, World.cell?_drew, World.frozen?_drew] at hc hz hf); rw [ex8])))
  go_wp2
  go_ret
  refine ⟨rfl, ?_⟩
  (repeat (first | exact ext_refl _ | assumption | (refine ext_alloc ?_ _) | (refine ext_drewN ?_ _) | refine ext_drew ?_ | (refine ext_set (by first | (simp; done) | (simp; omega)) _ ?_) | (refine ext_trans ?_ (by assumption))))

end Go.Proofs.Ytklbomfcejgbmaa
