/- Of any three numbers the law HistHeld answers true: whatever is reckoned stays between nothing and the most, more makes no less, and sums hang on no order; for all arguments. -/
import Derived.Test.YtkgdbpfpjpiejaaHiD
import Derived.Test.YtkgdbpfpjpiejaaFrame
namespace Go.Proofs.Ytkgdbpfpjpiejaa
open Go.ChangeShapes Go.WideShapes Go.ChangeAt Go.RowKit Go.Joins
set_option linter.unusedVariables false
set_option linter.unusedSimpArgs false
set_option maxRecDepth 100000

set_option maxHeartbeats 8000000 in
theorem held_walk (a b c : Int) (w : World) : Calls Try.prog 5 #[.int .i64 a, .int .i64 b, .int .i64 c] w fun e w' => e = .returned (.bool true) ∧ Below w.heap.size w w' := by
  have Aab := add_any a b
  have Aba := add_any b a
  have Aac := add_any a c
  have Abc := add_any b c
  have Axc := add_any (addC a b) c
  have Aap := add_any a (addC b c)
  have Mab := mul_any a b
  have Mba := mul_any b a
  have Mac := mul_any a c
  have Mbc := mul_any b c
  have Tabc := times_any a b c
  have Ta11 := times_any a 1 1
  have Tac7 := times_any a c 7
  have Tbc7 := times_any b c 7
  have Ca := clip_any a
  have Cb := clip_any b
  rw [addC_comm b a] at Aba
  rw [mulC_comm b a] at Mba
  rw [timesC_one] at Ta11
  rw [← addC_assoc] at Aap
  obtain ⟨l1, u1⟩ := clip_le a
  obtain ⟨l2, u2⟩ := addC_le a b
  obtain ⟨l3, u3⟩ := mulC_le a b
  obtain ⟨l4, u4⟩ := timesC_le a b c
  have k1 : a < b → clip a ≤ clip b := fun h => clip_mono (by omega)
  have k2 : a < b → addC a c ≤ addC b c := fun h => addC_mono c (by omega)
  have k3 : a < b → mulC a c ≤ mulC b c := fun h => mulC_mono c (by omega)
  have k4 : a < b → timesC a c 7 ≤ timesC b c 7 := fun h => timesC_mono c 7 (by omega)
  generalize addC (addC a b) c = s1 at *
  generalize addC a b = x2 at *
  generalize addC a c = p1 at *
  generalize addC b c = p2 at *
  generalize mulC a b = x3 at *
  generalize mulC a c = m1 at *
  generalize mulC b c = m2 at *
  generalize timesC a b c = x4 at *
  generalize timesC a c 7 = t1 at *
  generalize timesC b c 7 = t2 at *
  generalize clip a = x1 at *
  generalize clip b = y1 at *
  go_enter Try.func5, Try.ntmps5
  go_wp2_with (first | (go_at_call 9; refine (examples13_any _).mono ?_; rintro e w1 ⟨rfl, hb⟩) | (go_at_call 10; refine (Ca _).mono ?_; rintro e w2 ⟨rfl, rfl⟩) | (go_at_call 12; refine (Aab _).mono ?_; rintro e w2 ⟨rfl, rfl⟩) | (go_at_call 14; refine (Mab _).mono ?_; rintro e w2 ⟨rfl, rfl⟩) | (go_at_call 16; refine (Tabc _).mono ?_; rintro e w2 ⟨rfl, rfl⟩))
  obtain ⟨V, hV⟩ : ∃ V, V = w1.alloc (.cells #[.int .i64 x1, .int .i64 x2, .int .i64 x3, .int .i64 x4] 3) := ⟨_, rfl⟩
  rw [← hV]
  have HB := Lib.hid (show Below w.heap.size w V from by rw [hV]; exact ext_alloc hb _)
  have c0 : V.cell? ⟨w1.heap.size, 0, none⟩ = some (.int .i64 x1) := by rw [hV]; simp [go_sem]
  have c1 : V.cell? ⟨w1.heap.size, 1, none⟩ = some (.int .i64 x2) := by rw [hV]; simp [go_sem]
  have c2 : V.cell? ⟨w1.heap.size, 2, none⟩ = some (.int .i64 x3) := by rw [hV]; simp [go_sem]
  have c3 : V.cell? ⟨w1.heap.size, 3, none⟩ = some (.int .i64 x4) := by rw [hV]; simp [go_sem]
  clear hV hb
  generalize w1.heap.size = g at *
  refine wp_loop_rounds 5 ?_
  rw [rounds_succ]
  go_wp2_with fail
  rw [rounds_succ]
  go_wp2_with fail
  rw [rounds_succ]
  go_wp2_with fail
  rw [rounds_succ]
  go_wp2_with fail
  clear c0 c1 c2 c3 Tabc
  by_cases hab : a < b
  · have k1 := k1 hab
    have k2 := k2 hab
    have k3 := k3 hab
    have k4 := k4 hab
    rw [rounds_succ]
    go_wp2_with (first | (go_at_call 10; first | (with_reducible refine (Ca _).mono ?_; rintro e w2 ⟨rfl, rfl⟩) | (with_reducible refine (Cb _).mono ?_; rintro e w2 ⟨rfl, rfl⟩)) | (go_at_call 12; first | (with_reducible refine (Aab _).mono ?_; rintro e w2 ⟨rfl, rfl⟩) | (with_reducible refine (Aba _).mono ?_; rintro e w2 ⟨rfl, rfl⟩) | (with_reducible refine (Aac _).mono ?_; rintro e w2 ⟨rfl, rfl⟩) | (with_reducible refine (Abc _).mono ?_; rintro e w2 ⟨rfl, rfl⟩) | (with_reducible refine (Axc _).mono ?_; rintro e w2 ⟨rfl, rfl⟩) | (with_reducible refine (Aap _).mono ?_; rintro e w2 ⟨rfl, rfl⟩)) | (go_at_call 14; first | (with_reducible refine (Mab _).mono ?_; rintro e w2 ⟨rfl, rfl⟩) | (with_reducible refine (Mba _).mono ?_; rintro e w2 ⟨rfl, rfl⟩) | (with_reducible refine (Mac _).mono ?_; rintro e w2 ⟨rfl, rfl⟩) | (with_reducible refine (Mbc _).mono ?_; rintro e w2 ⟨rfl, rfl⟩)) | (go_at_call 16; first | (with_reducible refine (Ta11 _).mono ?_; rintro e w2 ⟨rfl, rfl⟩) | (with_reducible refine (Tac7 _).mono ?_; rintro e w2 ⟨rfl, rfl⟩) | (with_reducible refine (Tbc7 _).mono ?_; rintro e w2 ⟨rfl, rfl⟩)))
    go_ret
    exact ⟨by simp, HB.out⟩
  · have hab : b ≤ a := by omega
    rw [rounds_succ]
    go_wp2_with (first | (go_at_call 10; first | (with_reducible refine (Ca _).mono ?_; rintro e w2 ⟨rfl, rfl⟩) | (with_reducible refine (Cb _).mono ?_; rintro e w2 ⟨rfl, rfl⟩)) | (go_at_call 12; first | (with_reducible refine (Aab _).mono ?_; rintro e w2 ⟨rfl, rfl⟩) | (with_reducible refine (Aba _).mono ?_; rintro e w2 ⟨rfl, rfl⟩) | (with_reducible refine (Aac _).mono ?_; rintro e w2 ⟨rfl, rfl⟩) | (with_reducible refine (Abc _).mono ?_; rintro e w2 ⟨rfl, rfl⟩) | (with_reducible refine (Axc _).mono ?_; rintro e w2 ⟨rfl, rfl⟩) | (with_reducible refine (Aap _).mono ?_; rintro e w2 ⟨rfl, rfl⟩)) | (go_at_call 14; first | (with_reducible refine (Mab _).mono ?_; rintro e w2 ⟨rfl, rfl⟩) | (with_reducible refine (Mba _).mono ?_; rintro e w2 ⟨rfl, rfl⟩) | (with_reducible refine (Mac _).mono ?_; rintro e w2 ⟨rfl, rfl⟩) | (with_reducible refine (Mbc _).mono ?_; rintro e w2 ⟨rfl, rfl⟩)) | (go_at_call 16; first | (with_reducible refine (Ta11 _).mono ?_; rintro e w2 ⟨rfl, rfl⟩) | (with_reducible refine (Tac7 _).mono ?_; rintro e w2 ⟨rfl, rfl⟩) | (with_reducible refine (Tbc7 _).mono ?_; rintro e w2 ⟨rfl, rfl⟩)))
    go_ret
    exact ⟨by simp, HB.out⟩

/- FRAME -/

set_option maxRecDepth 100000 in
theorem histHeld_lifted (os : Os) (started : os.Started) (H : Type) (enc : TypeId × Value → H) :
    ReturnsInHanded {} Try.checked os 5 .any (Rows.histHeldSpec.pre6 enc Try.prog Try.f5 Rows.histHeldRow.domain false) (Rows.histHeldSpec.post enc Try.prog Try.f5 false true false false) := by
  refine returnsInHanded_of_change (C := Try.checked) Try.own started (by kernel_rfl) Try.func5
    (ChangeSpec.witness6 (enc := enc) (C := Try.checked) false ⟨#[], #[.int .i64 0, .int .i64 0, .int .i64 0], []⟩ 8 (by kernel_rfl) (by kernel_rfl) (by kernel_rfl) (by kernel_rfl)) ?_
  intro W base args ds gs before hval0 hW _ _
  have hval : ∀ (j : Nat) t v, Try.f5.params[j]? = some t → args[j]? = some v → Value.okWide Try.prog W .any base t v := hval0
  have hW' := hW
  obtain ⟨p, q, hA0, hV, rfl, _, _⟩ := hW
  have hA : DataW.TrodAll enc Try.prog W 0 (fun _ => true) true Try.f5.params.toList args.toList ds p := hA0
  rw [Try.params5] at hA hval
  obtain ⟨v0, v1, v2, d0, d1, d2, p0, p1, p2, rfl, rfl, rfl, h0, h1, h2⟩ := trodAll_three hA
  obtain ⟨z0, rfl, iz0⟩ := open_num (hval 0 3 v0 rfl rfl) h0
  obtain ⟨z1, rfl, iz1⟩ := open_num (hval 1 3 v1 rfl rfl) h1
  obtain ⟨z2, rfl, iz2⟩ := open_num (hval 2 3 v2 rfl rfl) h2
  clear hA0 hval0
  refine (held_walk z0 z1 z2 W).mono fun e W' ⟨he, hb⟩ => ⟨_, he, post_law rfl hW' rfl rfl ?_ hb⟩
  intro t ht
  rw [Try.params5] at ht
  simp only [List.mem_cons, List.not_mem_nil, or_false] at ht
  rcases ht with rfl | rfl | rfl <;> exact ⟨by kernel_rfl, of_decide_eq_true (by kernel_rfl)⟩

theorem histHeld_holds : Rows.HistHeldSaid :=
  OpenClaim.holds_of_wide 5 Try.f5 rfl rfl rfl rfl rfl rfl rfl ⟨rfl, rfl, rfl, rfl, rfl⟩ rfl rfl rfl rfl rfl (by kernel_rfl) Try.func5 (by kernel_rfl)
    (of_decide_eq_true (by kernel_rfl)) (by unfold Func.isWrapper; rw [if_neg (of_decide_eq_false (by kernel_rfl))]; exact ⟨rfl, rfl⟩)
    (fun os started H enc _ => histHeld_lifted os started H enc)

#print axioms histHeld_holds

end Go.Proofs.Ytkgdbpfpjpiejaa
