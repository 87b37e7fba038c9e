/- ValueRest: a number is its quotient times the divisor, and a rest that is less, and of no other sign; else the division is refused, as it must be: true for every input, without a condition. -/
import Derived.Test.YtklbomfcejgbmaaRestA
import Derived.Test.YtklbomfcejgbmaaRestB
import Derived.Test.YtklbomfcejgbmaaRestC
import Derived.Test.YtklbomfcejgbmaaValN
namespace Go.Proofs.Ytklbomfcejgbmaa
open Go.ChangeShapes Go.WideShapes Go.ChangeAt Go.RowKit Go.Joins

theorem rest_walk (a b : Int) (w : World) (ha : inR a = true) (hb : inR b = true) : Calls Try.prog 7 #[.int .i64 a, .int .i64 b] w fun e w' => e = .returned (.bool true) ∧ Below w.heap.size w w' := by
  by_cases h0 : b = 0
  · subst h0
    exact rest_zero a w ha (by simp [arith, Val.nullOr, Val.right])
  cases hq : inR (a.tdiv b)
  · rcases quot_in a b ha h0 with h | ⟨rfl, rfl⟩
    · rw [hq] at h; cases h
    · exact rest_over w (by simp [arith, Val.nullOr, Val.right, comp, inR])
  obtain ⟨r, h1, h2, h3, h4, h5⟩ := rest_of a b
  have ha' := (inR_iff a).1 ha
  have hb' := (inR_iff b).1 hb
  have hD : arith 7 (num a) (num b) = (num (a.tdiv b), 0) := by
    rw [arith_num 7 a b (fun _ => h0), comp7, hq]; rfl
  generalize a.tdiv b = q at *
  have hp : inR (q * b) = true := by
    rw [inR_iff]
    generalize q * b = p at *
    omega
  have hM : arith 6 (num q) (num b) = (num (q * b), 0) := by
    rw [arith_num 6 q b (fun h => by omega), comp6, hp]; rfl
  generalize q * b = p at *
  have hr : a - p = r := by omega
  have hS : arith 5 (num a) (num p) = (num r, 0) := by
    rw [arith_num 5 a p (fun h => by omega), comp5, hr, if_pos ((inR_iff r).2 (by omega))]
  by_cases sa : 0 ≤ a
  · by_cases sb : 0 < b
    · exact rest_way0 a b q p r w ha hb hq hp hD hM hS hb'.1 hb'.2 sa (h2 sa) sb (by omega) (by omega)
    · by_cases sm : b = -9223372036854775808
      · subst sm
        exact rest_way2 a q p r w ha hb hq hp hD hM hS sa (h2 sa) (by omega)
      · exact rest_way1 a b q p r w ha hb hq hp hD hM hS hb'.1 hb'.2 sa (h2 sa) (by omega) (by omega) (by omega) (by simpa using sm) (by omega)
  · by_cases sb : 0 < b
    · exact rest_way3 a b q p r w ha hb hq hp hD hM hS hb'.1 hb'.2 (by omega) (by omega) sb (by omega) (by omega)
    · by_cases sm : b = -9223372036854775808
      · subst sm
        exact rest_way5 a q p r w ha hb hq hp hD hM hS (by omega) (by omega) (by omega)
      · exact rest_way4 a b q p r w ha hb hq hp hD hM hS hb'.1 hb'.2 (by omega) (by omega) (by omega) (by omega) (by omega) (by simpa using sm) (by omega)

set_option maxRecDepth 100000 in
theorem valueRest_lifted (os : Os) (started : os.Started) (H : Type) (enc : TypeId × Value → H) :
    ReturnsInHanded {} Try.checked os 7 .any (Rows.valueRestSpec.pre6 enc Try.prog Try.f7 Rows.valueRestRow.domain false) (Rows.valueRestSpec.post enc Try.prog Try.f7 false true false false) := by
  refine returnsInHanded_of_change (C := Try.checked) Try.own started (by kernel_rfl) Try.func7
    (ChangeSpec.witness6 (enc := enc) (C := Try.checked) false ⟨#[], #[.int .i64 0, .int .i64 0], []⟩ 8 (by kernel_rfl) (by kernel_rfl) (by kernel_rfl) (by kernel_rfl)) ?_
  intro W base args ds gs before hval0 hW _ _
  have hval : ∀ (j : Nat) t v, Try.f7.params[j]? = some t → args[j]? = some v → Value.okWide Try.prog W .any base t v := hval0
  have hW' := hW
  obtain ⟨p, q, hA0, hV, rfl, _, _⟩ := hW
  have hA : DataW.TrodAll enc Try.prog W 0 (fun _ => true) true Try.f7.params.toList args.toList ds p := hA0
  rw [Try.params7] at hA hval
  obtain ⟨v0, v1, d0, d1, p0, p1, rfl, rfl, rfl, h0, h1⟩ := trodAll_two hA
  obtain ⟨x0, rfl, nx0⟩ := open_num (hval 0 3 v0 rfl rfl) h0
  obtain ⟨x1, rfl, nx1⟩ := open_num (hval 1 3 v1 rfl rfl) h1
  clear hA0 hval0
  refine (rest_walk x0 x1 W nx0 nx1).mono fun e W' ⟨he, hb⟩ => ⟨_, he, post_law rfl hW' rfl rfl ?_ hb⟩
  intro t ht
  rw [Try.params7] at ht
  simp only [List.mem_cons, List.not_mem_nil, or_false] at ht
  rcases ht with rfl | rfl <;> exact ⟨by kernel_rfl, of_decide_eq_true (by kernel_rfl)⟩

theorem valueRest_holds : Rows.ValueRestSaid :=
  OpenClaim.holds_of_wide 7 Try.f7 rfl rfl rfl rfl rfl rfl rfl ⟨rfl, rfl, rfl, rfl, rfl⟩ rfl rfl rfl rfl rfl (by kernel_rfl) Try.func7 (by kernel_rfl)
    (of_decide_eq_true (by kernel_rfl)) (by unfold Func.isWrapper; rw [if_neg (of_decide_eq_false (by kernel_rfl))]; exact ⟨rfl, rfl⟩)
    (fun os started H enc _ => valueRest_lifted os started H enc)

#print axioms valueRest_holds
end Go.Proofs.Ytklbomfcejgbmaa
