/- SignTells: the law answers true, and its arguments read as they did, for every input of at most 1048576 values and letters, as the tied card of the second form says. Conditions: that bound (the first form is false at arguments too great for any machine); what the package-level variables hold when the call begins is what the program's own text lays (the card ties it). -/
import Derived.Test.YtklgoajgchfmeaaDoorKx
import Derived.Test.YtklgoajgchfmeaaDoorKy
import Derived.Test.YtklgoajgchfmeaaDoorKB
import Derived.Deep.DeepHandedRow
set_option linter.unusedVariables false
set_option linter.unusedSimpArgs false
namespace Go.Proofs.YtklgoajgchfmeaaDoor
open Go.ChangeShapes Go.WideShapes Go.ChangeAt Go.RowKit Go.Joins Go.Deep
set_option maxRecDepth 100000
set_option maxRecDepth 100000 in
theorem signTells_lifted (os : Os) (started : os.Started) (H : Type) (enc : TypeId × Value → H) (F : Stop.Interp) :
    ReturnsInHanded {} Tryd.checked os 4 .any ((Rows.OpenSpec.upto Rows.signTellsSpec).preRow enc Tryd.prog Tryd.f4 Rows.signTellsUptoRow.domain false laidVars) (((Rows.OpenSpec.upto Rows.signTellsSpec).at F).post enc Tryd.prog Tryd.f4 false true false false) := by
  refine returnsInHanded_of_row (C := Tryd.checked) (s := Rows.OpenSpec.upto Rows.signTellsSpec) Tryd.own started (by kernel_rfl) Tryd.func4
    (wit_row os _ _ _ _ #[.agg #[.slice none 0 0, .int .i64 0, .slice none 0 0, .slice none 0 0, .slice none 0 0, .slice none 0 0, .slice none 0 0, .bool false, .slice none 0 0, .slice none 0 0, .bool false], .int .i64 0] (by kernel_rfl)
      (OpenSpec.preRow_of_cond (x := ([.agg [.nil, .lit (.int .i64 0), .nil, .nil, .nil, .nil, .nil, .lit (.bool false), .nil, .nil, .lit (.bool false)], .lit (.int .i64 0)], [], [])) 8 (by kernel_rfl) (by kernel_rfl) (fun k hk => by cases hk; kernel_rfl) (by kernel_rfl) (wit_met os _))) ?_
  intro W base args ds gs before hval0 hW _ hcond hsz hL _ _
  have hval : ∀ (j : Nat) t v, Tryd.f4.params[j]? = some t → args[j]? = some v → Value.okWide Tryd.prog W .any base t v := hval0
  have hW' := hW
  obtain ⟨p, q, hA0, hV, rfl, _, _⟩ := hW
  obtain ⟨rfl, rfl⟩ := trodVars_none hV
  have hA : DataW.TrodAll enc Tryd.prog W 0 (fun _ => true) true Tryd.f4.params.toList args.toList ds p := hA0
  rw [Tryd.params4] at hA hval hsz
  obtain ⟨v0, v1, d0, d1, p0, p1, rfl, rfl, rfl, h0, h1⟩ := trodAll_two hA
  have hB : Rows.uptoBulkAll ([d0, d1] ++ []) ≤ 1048576 := of_decide_eq_true (hcond _ rfl)
  simp only [List.append_nil, Rows.uptoBulkAll] at hB
  obtain ⟨z1, rfl, iz1⟩ := open_num (hval 1 3 v1 rfl rfl) h1
  obtain ⟨b0, tb0, L0, rfl, hb0, hc0, ht0⟩ := open_block (hval 0 43 v0 rfl rfl) h0 (fun n hn => of_decide_eq_true (List.all_eq_true.1 hsz _ (DataW.weights_mem_each (j := 0) (t := 43) rfl rfl n hn)))
  have hfew := block_few h0
  rw [hb0.cn] at hfew
  have hG := GE.of_laid hL
  clear hA0 hval0 hL
  refine (signTells_any b0 tb0 L0 z1 W hb0 hG iz1 hc0 ht0 (by omega)).mono fun e W' ⟨he, hb⟩ => ⟨_, he, post_law rfl hW' rfl rfl ?_ hb⟩
  intro t ht
  rw [Tryd.params4] at ht
  simp only [List.mem_cons, List.not_mem_nil, or_false] at ht
  rcases ht with rfl | rfl <;> exact ⟨by kernel_rfl, of_decide_eq_true (by kernel_rfl)⟩
theorem signTells_holds : Rows.SignTellsUptoSaid :=
  OpenClaim.holds_of_cond 4 Tryd.f4 rfl rfl rfl rfl rfl rfl rfl ⟨rfl, rfl, rfl, rfl, rfl⟩ rfl rfl rfl rfl rfl (by kernel_rfl) Tryd.func4 (by kernel_rfl)
    (of_decide_eq_true (by kernel_rfl)) (by unfold Func.isWrapper; rw [if_neg (of_decide_eq_false (by kernel_rfl))]; exact ⟨rfl, rfl⟩)
    (fun os started H enc _ F => by rw [OpenClaim.pre_eq_preRow]; exact signTells_lifted os started H enc F)
set_option maxRecDepth 100000 in
theorem signTells_card : Rows.SignTellsUptoCardSaid :=
  Claim7.holds_tied_plain_at .later [] Rows.signTellsUptoCard.laidKinds true Rows.signTellsUptoCard.stood.harness Rows.signTellsUptoCard.stood.looks (signTells_holds) (fun _ h => by cases h) (by kernel_rfl) (fun _ h => by cases h) signTellsUpto_row_tie rfl ⟨rfl, rfl⟩ (by kernel_rfl) rfl
    (fun f fn hf hfn => by
      obtain rfl : f = 4 := Option.some.inj ((show Tryd.prog.funcNamed "weathercock/weathercocklaw12.SignTells" = some 4 by kernel_rfl).symm.trans hf) |>.symm
      obtain rfl : fn = Tryd.f4 := (Option.some.inj (Tryd.func4.symm.trans hfn)).symm
      exact ⟨by kernel_rfl, fun j t ht => by
        rw [Tryd.params4] at ht
        have hm : t ∈ [43, 3] := by simpa using Array.mem_of_getElem? ht
        have hall : ([43, 3].all fun u => !Tryd.prog.wantsStandIn u) = true := by kernel_rfl
        exact (show Tryd.prog.wantsStandIn t = false by simpa using List.all_eq_true.1 hall t hm)⟩)
    (by kernel_rfl)
#print axioms signTells_card
end Go.Proofs.YtklgoajgchfmeaaDoor
