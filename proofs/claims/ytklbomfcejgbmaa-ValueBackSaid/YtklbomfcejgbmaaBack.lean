/- ValueBack: what was added is taken away again; a product divided by one of its factors is the other one; what is turned twice is as it was: true for every input, without a condition. -/
import Derived.Test.YtklbomfcejgbmaaValN
import Derived.Test.YtklbomfcejgbmaaBackA
import Derived.Test.YtklbomfcejgbmaaBackB
namespace Go.Proofs.Ytklbomfcejgbmaa
open Go.ChangeShapes Go.WideShapes Go.ChangeAt Go.RowKit Go.Joins

theorem back_walk (a b : Int) (w : World) (ha : inR a = true) (hb : inR b = true) : Calls Try.prog 6 #[.int .i64 a, .int .i64 b] w fun e w' => e = .returned (.bool true) ∧ Below w.heap.size w w' := by
  have ha' := (inR_iff a).1 ha
  have n0 : Val.nullOr 1 nul = true := by simp [Val.nullOr, Val.right]
  have hnul : arith 5 (num 0) nul = (nul, 0) := by simp [arith, Val.nullOr, Val.right]
  have hmin : arith 5 (num 0) (num (-9223372036854775808)) = (nul, 3) := by rw [arith_num 5 _ _ (fun h => by omega)]; rfl
  have hneg : a ≠ -9223372036854775808 → arith 5 (num 0) (num a) = (num (-a), 0) ∧ arith 5 (num 0) (num (-a)) = (num a, 0) ∧ inR (-a) = true := by
    intro h
    have h1 : inR (-a) = true := by rw [inR_iff]; omega
    refine ⟨?_, ?_, h1⟩
    · rw [arith_num 5 _ _ (fun h => by omega), comp5, Int.zero_sub, h1]; rfl
    · rw [arith_num 5 _ _ (fun h => by omega), comp5, Int.zero_sub, Int.neg_neg, ha]; rfl
  have h4 : arith 4 (num a) (num b) = if inR (a + b) then (num (a + b), 0) else (nul, 3) := arith_num 4 a b (fun h => by omega)
  have h5 : arith 5 (num (a + b)) (num b) = (num a, 0) := by rw [arith_num 5 _ _ (fun h => by omega), comp5, Int.add_sub_cancel, ha]; rfl
  have h6 : arith 6 (num a) (num b) = if inR (a * b) then (num (a * b), 0) else (nul, 3) := arith_num 6 a b (fun h => by omega)
  have h7 : b ≠ 0 → arith 7 (num (a * b)) (num b) = (num a, 0) := fun h0 => by
    rw [arith_num 7 _ _ (fun _ => h0), comp7, Int.mul_tdiv_cancel _ h0, ha]; rfl
  by_cases hb0 : b = 0
  · subst hb0
    rw [Int.add_zero, ha, if_pos rfl] at h4
    rw [Int.add_zero] at h5
    rw [Int.mul_zero, if_pos (by decide)] at h6
    by_cases hm : a = -9223372036854775808
    · subst hm
      exact back_fit_zero_least _ w ha (by decide) ha h4 h5 h6 hmin hnul
    · obtain ⟨n1, n2, n3⟩ := hneg hm
      exact back_fit_zero_fit a _ _ w ha (by decide) ha h4 h5 h6 n3 n1 n2
  have hb1 : (b != 0) = true := by simpa using hb0
  have h7 := h7 hb0
  cases hs : inR (a + b)
  · rw [hs, if_neg Bool.false_ne_true] at h4
    cases hp : inR (a * b)
    · rw [hp, if_neg Bool.false_ne_true] at h6
      by_cases hm : a = -9223372036854775808
      · subst hm
        exact back_over_over_least b w ha hb h4 h6 hmin hnul
      · obtain ⟨n1, n2, n3⟩ := hneg hm
        exact back_over_over_fit a b _ w ha hb h4 h6 n3 n1 n2
    · rw [hp, if_pos rfl] at h6
      by_cases hm : a = -9223372036854775808
      · subst hm
        exact back_over_fit_least b _ w ha hb h4 hp hb1 h6 h7 hmin hnul
      · obtain ⟨n1, n2, n3⟩ := hneg hm
        exact back_over_fit_fit a b _ _ w ha hb h4 hp hb1 h6 h7 n3 n1 n2
  · rw [hs, if_pos rfl] at h4
    cases hp : inR (a * b)
    · rw [hp, if_neg Bool.false_ne_true] at h6
      by_cases hm : a = -9223372036854775808
      · subst hm
        exact back_fit_over_least b _ w ha hb hs h4 h5 h6 hmin hnul
      · obtain ⟨n1, n2, n3⟩ := hneg hm
        exact back_fit_over_fit a b _ _ w ha hb hs h4 h5 h6 n3 n1 n2
    · rw [hp, if_pos rfl] at h6
      by_cases hm : a = -9223372036854775808
      · subst hm
        exact back_fit_fit_least b _ _ w ha hb hs h4 h5 hp hb1 h6 h7 hmin hnul
      · obtain ⟨n1, n2, n3⟩ := hneg hm
        exact back_fit_fit_fit a b _ _ _ w ha hb hs h4 h5 hp hb1 h6 h7 n3 n1 n2

set_option maxRecDepth 100000 in
theorem valueBack_lifted (os : Os) (started : os.Started) (H : Type) (enc : TypeId × Value → H) :
    ReturnsInHanded {} Try.checked os 6 .any (Rows.valueBackSpec.pre6 enc Try.prog Try.f6 Rows.valueBackRow.domain false) (Rows.valueBackSpec.post enc Try.prog Try.f6 false true false false) := by
  refine returnsInHanded_of_change (C := Try.checked) Try.own started (by kernel_rfl) Try.func6
    (ChangeSpec.witness6 (enc := enc) (C := Try.checked) false ⟨#[], #[.int .i64 0, .int .i64 0], []⟩ 8 (by kernel_rfl) (by kernel_rfl) (by kernel_rfl) (by kernel_rfl)) ?_
  intro W base args ds gs before hval0 hW _ _
  have hval : ∀ (j : Nat) t v, Try.f6.params[j]? = some t → args[j]? = some v → Value.okWide Try.prog W .any base t v := hval0
  have hW' := hW
  obtain ⟨p, q, hA0, hV, rfl, _, _⟩ := hW
  have hA : DataW.TrodAll enc Try.prog W 0 (fun _ => true) true Try.f6.params.toList args.toList ds p := hA0
  rw [Try.params6] at hA hval
  obtain ⟨v0, v1, d0, d1, p0, p1, rfl, rfl, rfl, h0, h1⟩ := trodAll_two hA
  obtain ⟨x0, rfl, nx0⟩ := open_num (hval 0 3 v0 rfl rfl) h0
  obtain ⟨x1, rfl, nx1⟩ := open_num (hval 1 3 v1 rfl rfl) h1
  clear hA0 hval0
  refine (back_walk x0 x1 W nx0 nx1).mono fun e W' ⟨he, hb⟩ => ⟨_, he, post_law rfl hW' rfl rfl ?_ hb⟩
  intro t ht
  rw [Try.params6] at ht
  simp only [List.mem_cons, List.not_mem_nil, or_false] at ht
  rcases ht with rfl | rfl <;> exact ⟨by kernel_rfl, of_decide_eq_true (by kernel_rfl)⟩

theorem valueBack_holds : Rows.ValueBackSaid :=
  OpenClaim.holds_of_wide 6 Try.f6 rfl rfl rfl rfl rfl rfl rfl ⟨rfl, rfl, rfl, rfl, rfl⟩ rfl rfl rfl rfl rfl (by kernel_rfl) Try.func6 (by kernel_rfl)
    (of_decide_eq_true (by kernel_rfl)) (by unfold Func.isWrapper; rw [if_neg (of_decide_eq_false (by kernel_rfl))]; exact ⟨rfl, rfl⟩)
    (fun os started H enc _ => valueBack_lifted os started H enc)

#print axioms valueBack_holds
end Go.Proofs.Ytklbomfcejgbmaa
