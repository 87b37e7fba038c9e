/- ExprSplits: the law answers true, and its arguments read as they did, for every input, as the tied card says. Conditions: what the package-level variables hold when the call begins is what the program's own text lays (the card ties it); the form's own reach of an argument. -/
import Derived.Test.YthdnbcdcfaocmaaDoorSpE
import Derived.Test.YthdnbcdcfaocmaaDoorGeL
import Derived.Test.YthdnbcdcfaocmaaDoorRwO
namespace Go.Proofs.YthdnbcdcfaocmaaDoor
open Go.ChangeShapes Go.WideShapes Go.ChangeAt Go.RowKit Go.Joins Go.Deep
set_option maxRecDepth 100000

/- FRAME -/

set_option maxRecDepth 100000 in
theorem exprSplits_lifted (os : Os) (started : os.Started) (H : Type) (enc : TypeId × Value → H) :
    ReturnsInHanded {} Tryd.checked os 8 .any (fun w args => (Rows.exprSplitsSpec.pre enc Tryd.prog Tryd.f8 Rows.exprSplitsRow.domain false w args ∧ laidMetH Tryd.prog laidVars w) ∧ sizedMet enc Tryd.prog Tryd.f8 (OpenSpec.ofChange Rows.exprSplitsSpec) false w args) (Rows.exprSplitsSpec.post enc Tryd.prog Tryd.f8 false true false false) := by
  refine returnsInHanded_of_change_and (C := Tryd.checked) (X := fun w _ => laidMetH Tryd.prog laidVars w) (fun _ _ _ hh h => h.of_heap hh) Tryd.own started (by kernel_rfl) Tryd.func8
    (ChangeSpec.witness_shaped (enc := enc) (C := Tryd.checked) (os := os) (X := fun w _ => laidMetH Tryd.prog laidVars w) false (World.laidAll Tryd.prog os laidVars) #[.agg #[.int .i64 0, .int .i64 0, .int .i64 0, .string ⟨#[]⟩, .int .i64 0, .int .i64 0, .int .i64 0, .string ⟨#[]⟩, .slice none 0 0], .slice none 0 0, .slice none 0 0] 8 (World.laidAll_os _ _ _)
      (wit_shaped os _) (by kernel_rfl) (by kernel_rfl) (by kernel_rfl) (wit_met os _)) ?_
  intro W base args ds gs before hval0 hW _ hsz hL _
  have hval : ∀ (j : Nat) t v, Tryd.f8.params[j]? = some t → args[j]? = some v → Value.okWide Tryd.prog W .any base t v := hval0
  have hW' := hW
  obtain ⟨p, q, hA0, hV, rfl, _, _⟩ := hW
  have hA : DataW.TrodAll enc Tryd.prog W 0 (fun _ => true) true Tryd.f8.params.toList args.toList ds p := hA0
  rw [Tryd.params8] at hA hval hsz
  obtain ⟨v0, v1, v2, d0, d1, d2, p0, p1, p2, rfl, rfl, rfl, h0, h1, h2⟩ := trodAll_three hA
  obtain ⟨x0, cs0, rfl, hx0⟩ := open_ex (hval 0 26 v0 rfl rfl) h0
  obtain ⟨q1, L1, c1, rfl, le1, m1, tx1, ok1⟩ := open_rows8 (hval 1 45 v1 rfl rfl) h1 (fun n hn => of_decide_eq_true (List.all_eq_true.1 hsz _ (DataW.weights_mem_each (j := 1) (t := 45) rfl rfl n hn)))
  obtain ⟨q2, L2, c2, rfl, le2, m2, tx2, ok2⟩ := open_row8 (hval 2 46 v2 rfl rfl) h2 (fun n hn => of_decide_eq_true (List.all_eq_true.1 hsz _ (DataW.weights_mem_each (j := 2) (t := 46) rfl rfl n hn)))
  have hG := GE.of_laid hL
  clear hA0 hval0 hL
  refine (exprSplits_walk x0 _ W _ _ L1 L2 hx0 ⟨⟨q1, c1, rfl, le1, m1, tx1⟩, q2, c2, rfl, le2, m2, tx2⟩ ⟨fun l hl v hv => (ok1 l hl v hv).2.1, fun v hv => (ok2 v hv).2.1⟩ hG).mono fun e W' ⟨he, hb⟩ => ⟨_, he, post_law rfl hW' rfl rfl ?_ hb⟩
  intro t ht
  rw [Tryd.params8] at ht
  simp only [List.mem_cons, List.not_mem_nil, or_false] at ht
  rcases ht with rfl | rfl | rfl <;> exact ⟨by kernel_rfl, of_decide_eq_true (by kernel_rfl)⟩

theorem exprSplits_holds : Rows.ExprSplitsSaid :=
  OpenClaim.holds_of_wide 8 Tryd.f8 rfl rfl rfl rfl rfl rfl rfl ⟨rfl, rfl, rfl, rfl, rfl⟩ rfl rfl rfl rfl rfl (by kernel_rfl) Tryd.func8 (by kernel_rfl)
    (of_decide_eq_true (by kernel_rfl)) (by unfold Func.isWrapper; rw [if_neg (of_decide_eq_false (by kernel_rfl))]; exact ⟨rfl, rfl⟩)
    (fun os started H enc _ => exprSplits_lifted os started H enc)

set_option maxRecDepth 100000 in
theorem exprSplits_card : Rows.ExprSplitsCardSaid :=
  Claim7.holds_tied_plain_at .later [] Rows.exprSplitsCard.laidKinds true Rows.exprSplitsCard.stood.harness Rows.exprSplitsCard.stood.looks (exprSplits_holds) (fun _ h => by cases h) (by kernel_rfl) (fun _ h => by cases h) exprSplits_row_tie rfl ⟨rfl, rfl⟩ (by kernel_rfl) rfl
    (fun f fn hf hfn => by
      obtain rfl : f = 8 := Option.some.inj ((show Tryd.prog.funcNamed "weathercock/weathercocklaw08.ExprSplits" = some 8 by kernel_rfl).symm.trans hf) |>.symm
      obtain rfl : fn = Tryd.f8 := (Option.some.inj (Tryd.func8.symm.trans hfn)).symm
      exact ⟨by kernel_rfl, fun j t ht => by
        rw [Tryd.params8] at ht
        have hm : t ∈ [26, 45, 46] := by simpa using Array.mem_of_getElem? ht
        have hall : ([26, 45, 46].all fun u => !Tryd.prog.wantsStandIn u) = true := by kernel_rfl
        exact (show Tryd.prog.wantsStandIn t = false by simpa using List.all_eq_true.1 hall t hm)⟩)
    (by kernel_rfl)

#print axioms exprSplits_card

end Go.Proofs.YthdnbcdcfaocmaaDoor
