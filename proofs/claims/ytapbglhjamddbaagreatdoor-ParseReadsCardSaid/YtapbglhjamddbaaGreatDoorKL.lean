/- A part of the proof. -/
import Derived.Test.YtapbglhjamddbaaGreatDoorKK
import Derived.Test.YtapbglhjamddbaaGreatDoorKG
import Derived.Test.YtapbglhjamddbaaGreatDoorKt
namespace Go.Proofs.YtapbglhjamddbaaGreatDoor
open Go.ChangeShapes Go.WideShapes Go.ChangeAt Go.RowKit Go.Joins
set_option maxRecDepth 100000
set_option maxRecDepth 100000 in
theorem parseReads_lifted (os:Os) (started:os.Started) (H:Type) (enc:TypeId × Value→H) :
  ReturnsInHanded {} Tryz.checked os 3 .any (fun w args=>(Rows.parseReadsSpec.pre enc Tryz.prog Tryz.f3 Rows.parseReadsRow.domain false w args∧laidMetH Tryz.prog laidVars w)∧sizedMet enc Tryz.prog Tryz.f3 (OpenSpec.ofChange Rows.parseReadsSpec) false w args) (Rows.parseReadsSpec.post enc Tryz.prog Tryz.f3 false true false false):=by
 refine returnsInHanded_of_change_and (C:=Tryz.checked) (X:=fun w _=>laidMetH Tryz.prog laidVars w) (fun _ _ _ hh h=>h.of_heap hh) Tryz.own started (by kernel_rfl) Tryz.func3
  (ChangeSpec.witness_shaped (enc:=enc) (C:=Tryz.checked) (os:=os) (X:=fun w _=>laidMetH Tryz.prog laidVars w) false (World.laidAll Tryz.prog os laidVars) #[.string ⟨#[]⟩] 8 (World.laidAll_os _ _ _)
   (wit_shaped os _) (by kernel_rfl) (by kernel_rfl) (by kernel_rfl) (wit_met os _)) ?_
 intro W base args ds gs before hval0 hW _ hsz hL _
 have hval:∀ (j:Nat) t v,Tryz.f3.params[j]?=some t→args[j]?=some v→Value.okWide Tryz.prog W .any base t v:=hval0
 have hW':=hW
 obtain⟨p,q,hA0,hV,rfl,_,_⟩:=hW
 have hA:DataW.TrodAll enc Tryz.prog W 0 (fun _=>true) true Tryz.f3.params.toList args.toList ds p:=hA0
 rw[Tryz.params3] at hA hval hsz
 obtain⟨v0,d0,rfl,rfl,h0⟩:=trodAll_one hA
 obtain⟨s0,rfl,zs0⟩:=open_word6 (hval 0 9 v0 rfl rfl) h0 (fun n hn=>of_decide_eq_true (List.all_eq_true.1 hsz _ (DataW.weights_mem_each (j:=0) (t:=9) rfl rfl n hn)))
 have hG:=GV.of_laid hL
 clear hA0 hval0 hL
 refine (reads9_walk s0 (by unfold reachBytes at zs0;omega) W hG).mono fun e W' ⟨he,hb⟩=>⟨_,he,post_law rfl hW' rfl rfl ?_ hb⟩
 intro t ht
 rw[Tryz.params3] at ht
 simp only[List.mem_cons,List.not_mem_nil,or_false] at ht
 subst ht <;> exact⟨by kernel_rfl,of_decide_eq_true (by kernel_rfl)⟩
open Go.ChangeShapes Go.WideShapes Go.ChangeAt Go.RowKit Go.Joins
set_option maxRecDepth 100000
set_option maxHeartbeats 8000000 in
theorem parseReads_facts:joinedFacts Tryz.prog 3 Tryz.f3 Rows.parseReadsSpec Rows.parseReadsRow=true:=by
 unfold joinedFacts
 repeat' (first |(refine Bool.and_eq_true_iff.2 ⟨?_,?_⟩))
 all_goals (as_aux_lemma=>kernel_rfl)
end Go.Proofs.YtapbglhjamddbaaGreatDoor
