/- LexTexts: a text between quotes, each quote in it doubled, is a token that says it, if it is not too long: the law answers true. (Over the contract of Lex.) -/
import Derived.Test.YtejfjlbnehdgnaaDoorLxD
import Derived.Test.YtejfjlbnehdgnaaDoorWord
import Derived.Test.YtejfjlbnehdgnaaDoorLcL
namespace Go.Proofs.YtejfjlbnehdgnaaDoor
open Go.ChangeShapes Go.WideShapes Go.ChangeAt Go.RowKit Go.Joins
set_option maxRecDepth 100000

theorem dbl_append (a b : Bs) : dbl (a ++ b) = dbl a ++ dbl b := by unfold dbl; rw [List.flatMap_append]
theorem dbl_one (b : UInt8) : dbl [b] = if b = 39 then [39, 39] else [b] := by unfold dbl; simp
theorem dbl_len (s : Bs) : (dbl s).length ≤ 2 * s.length := by
  induction s with
  | nil => exact Nat.le_refl _
  | cons b s ih =>
    rw [show b :: s = [b] ++ s from rfl, dbl_append, dbl_one, List.length_append, List.length_append]
    simp only [List.length_singleton]
    split
    · simp only [List.length_cons, List.length_nil]; omega
    · simp only [List.length_cons, List.length_nil]; omega
theorem lexS_quoted {s : Bs} (h : s.length ≤ 200) : lexS (39 :: dbl s ++ [39]) = if 40 < s.length then .err 5 0 else .ok [⟨4, 0, 0, s⟩] := by
  have := dbl_len s
  unfold lexS
  rw [if_neg (by simp; omega), lexL_quoted]
set_option maxHeartbeats 4000000 in
theorem texts_walk (C : LexC) (s : ByteArray) (w : World) (hG : GV w) (hs : s.size ≤ 9223372036854775807) :
    Calls Tryd.prog 6 #[.string s] w fun e w' => e = .returned (.bool true) ∧ Below w.heap.size w w' := by
  have hsl : s.data.toList.length = s.size := Array.length_toList
  go_enter Tryd.func6, Tryd.ntmps6
  go_wp2_with fail
  refine (ex7_any C _ hG).mono ?_
  rintro e w1 ⟨rfl, hb1⟩
  have hs1 := hb1.size
  have B1 := Lib.hid hb1
  clear hb1
  by_cases hlong : s.size > 200
  · have z1 : (s.size : Int) > 200 := by omega
    go_wp2_with fail
    go_ret
    exact ⟨rfl, B1.out⟩
  have z1 : ¬ (s.size : Int) > 200 := by omega
  go_wp2_with fail
  go_loopw [5, 4] (fun vi vq wr => ∃ i : Nat, vi = .int .i64 i ∧ i ≤ s.size ∧ vq = .string (bsB (39 :: dbl (s.data.toList.take i))) ∧ wr = w1) (fun vi _ _ => s.size - (intOf vi).toNat)
  case atStart => exact ⟨0, rfl, Nat.zero_le _, rfl, rfl⟩
  case round =>
    obtain ⟨i, rfl, hi, rfl, rfl⟩ := hrel
    by_cases hlt : i < s.size
    · obtain ⟨b, hb⟩ : ∃ b, s.data.toList[i]? = some b := ⟨_, List.getElem?_eq_getElem (by rw [hsl]; exact hlt)⟩
      obtain ⟨p4, p5⟩ := byt_data hb
      have eb := byt_at s i p4
      have e1 := bsB_at s i b hb
      have e2 : s.data.toList.take (i + 1) = s.data.toList.take i ++ [b] := by rw [List.take_add_one, hb]; rfl
      have eb2 := eb.trans p5
      obtain ⟨Q, hQ⟩ : ∃ Q, Q = bsB (39 :: dbl (s.data.toList.take i)) := ⟨_, rfl⟩
      have HQs : Q.size ≤ 401 := by
        have := dbl_len (s.data.toList.take i)
        rw [List.length_take] at this
        rw [hQ, bsB_len, List.length_cons]
        omega
      have g1 : ¬ 9223372036854775807 < Q.size + (min (i + 1) s.size - i) := by omega
      have g2 : ¬ 9223372036854775807 < Q.size + (min (i + 1) s.size - i) + 1 := by omega
      rw [← hQ]
      have e3 : Q ++ s.extract i (i + 1) = bsB (39 :: dbl (s.data.toList.take i) ++ [b]) := by rw [e1, hQ, bsB_add]
      by_cases h39 : b = 39
      · have m1 : (((s[i]'p4).toNat : Int) == 39) = true := by rw [eb2, h39]; rfl
        have e4 : Q ++ s.extract i (i + 1) ++ ⟨#[39]⟩ = bsB (39 :: dbl (s.data.toList.take (i + 1))) := by
          rw [e3, show (⟨#[39]⟩ : ByteArray) = bsB [39] from rfl, bsB_add, e2, dbl_append, dbl_one, if_pos h39, h39]
          simp
        have HE := Lib.hid e4
        clear e1 e2 e3 e4 hb eb eb2 hQ p5 h39
        go_wp2_with fail
        go_roundw
        case rel => exact ⟨i + 1, by go_num, hlt, by rw [HE.out], trivial⟩
        case measure => simp [intOf] <;> omega
      · have m1 : (((s[i]'p4).toNat : Int) == 39) = false := by
          rw [eb2, beq_eq_false_iff_ne]
          intro h
          exact h39 (UInt8.toNat_inj.1 (by have : b.toNat = 39 := (by omega); rw [this]; rfl))
        have e4 : Q ++ s.extract i (i + 1) = bsB (39 :: dbl (s.data.toList.take (i + 1))) := by rw [e3, e2, dbl_append, dbl_one, if_neg h39]; rfl
        have HE := Lib.hid e4
        clear e1 e2 e3 e4 hb eb eb2 hQ p5 h39
        go_wp2_with fail
        go_roundw
        case rel => exact ⟨i + 1, by go_num, hlt, by rw [HE.out], trivial⟩
        case measure => simp [intOf] <;> omega
    · obtain rfl : i = s.size := by omega
      have e0 : s.data.toList.take s.size = s.data.toList := by rw [← hsl]; exact List.take_length
      rw [e0]
      obtain ⟨Q, hQ⟩ : ∃ Q, Q = bsB (39 :: dbl s.data.toList) := ⟨_, rfl⟩
      have HQs : Q.size ≤ 401 := by
        have := dbl_len s.data.toList
        rw [hQ, bsB_len, List.length_cons]
        omega
      have g1 : ¬ 9223372036854775807 < Q.size + 1 := by omega
      obtain ⟨R, hR⟩ : ∃ R, R = Q ++ ⟨#[39]⟩ := ⟨_, rfl⟩
      have eR : R.data.toList = 39 :: dbl s.data.toList ++ [39] := by rw [hR, hQ]; exact congrArg (fun x : ByteArray => x.data.toList) (bsB_add (39 :: dbl s.data.toList) [39])
      have hRs : R.size ≤ 402 := by rw [hR, ByteArray.size_append]; exact Nat.succ_le_succ HQs
      have hlx := lexS_quoted (s := s.data.toList) (by omega)
      rw [← eR] at hlx
      clear eR
      rw [← hQ]
      have HR := Lib.hid hR
      clear hR hQ e0
      by_cases h40 : s.size > 40
      · rw [if_pos (by omega)] at hlx
        have CB := Lib.hid (C.bad R 5 0 wr (hG.on B1.out) (by omega) hlx)
        have z2 : (s.size : Int) > 40 := by omega
        clear hlx hsl
        go_wp2_with fail
        rw [← HR.out]
        refine (CB.out).mono ?_
        rintro e w2 ⟨⟨q, c, rfl⟩, hb2⟩
        have B2 := Lib.hid (B1.out.trans (hb2.mono hs1))
        clear hb2 CB
        go_wp2_with fail
        go_ret
        exact ⟨rfl, B2.out⟩
      · rw [if_neg (by omega)] at hlx
        have CG := Lib.hid (C.good R _ wr (hG.on B1.out) (by omega) hlx)
        have z2 : ¬ (s.size : Int) > 40 := by omega
        clear hlx hsl
        go_wp2_with fail
        rw [← HR.out]
        refine (CG.out).mono ?_
        rintro e w2 ⟨⟨q, c, rfl, hO⟩, hb2⟩
        obtain ⟨-, k1, k2, hA⟩ := hO.toks
        have B2 := Lib.hid (B1.out.trans (hb2.mono hs1))
        obtain ⟨g, off, rfl, -, hg, hcA⟩ := hA 0 (Nat.succ_pos _)
        have x := hcA 0 _ rfl
        have v0 := x.c0
        have v1 := x.c1
        have v2 := x.c2
        have v3 := x.c3
        simp only [Nat.zero_mul, Nat.add_zero] at v0 v1 v2 v3
        have heq1 := fun w => Tryd.eqlTok 4 0 0 4 0 0 s s w
        simp only [beq_self_eq_true, Bool.and_self] at heq1
        have hgt := Tryd.tokGuard
        rw [bsB_data] at v3
        clear hO hA hb2 CG hcA x
        go_wp2_with fail
        go_ret
        exact ⟨rfl, B2.out⟩

/- FRAME -/

set_option maxRecDepth 100000 in
theorem lexTexts_lifted (C : LexC) (os : Os) (started : os.Started) (H : Type) (enc : TypeId × Value → H) :
    ReturnsInHanded {} Tryd.checked os 6 .any (fun w args => (Rows.lexTextsSpec.pre enc Tryd.prog Tryd.f6 Rows.lexTextsRow.domain false w args ∧ laidMetH Tryd.prog laidVars w) ∧ sizedMet enc Tryd.prog Tryd.f6 (OpenSpec.ofChange Rows.lexTextsSpec) false w args) (Rows.lexTextsSpec.post enc Tryd.prog Tryd.f6 false true false false) := by
  refine returnsInHanded_of_change_and (C := Tryd.checked) (X := fun w _ => laidMetH Tryd.prog laidVars w) (fun _ _ _ hh h => h.of_heap hh) Tryd.own started (by kernel_rfl) Tryd.func6
    (ChangeSpec.witness_shaped (enc := enc) (C := Tryd.checked) (os := os) (X := fun w _ => laidMetH Tryd.prog laidVars w) false (World.laidAll Tryd.prog os laidVars) #[.string ⟨#[]⟩] 8 (World.laidAll_os _ _ _)
      (wit_shaped os _) (by kernel_rfl) (by kernel_rfl) (by kernel_rfl) (wit_met os _)) ?_
  intro W base args ds gs before hval0 hW _ hsz hL _
  have hval : ∀ (j : Nat) t v, Tryd.f6.params[j]? = some t → args[j]? = some v → Value.okWide Tryd.prog W .any base t v := hval0
  have hW' := hW
  obtain ⟨p, q, hA0, hV, rfl, _, _⟩ := hW
  have hA : DataW.TrodAll enc Tryd.prog W 0 (fun _ => true) true Tryd.f6.params.toList args.toList ds p := hA0
  rw [Tryd.params6] at hA hval hsz
  obtain ⟨v0, d0, rfl, rfl, h0⟩ := trodAll_one hA
  obtain ⟨s0, rfl, zs0⟩ := open_word6 (hval 0 9 v0 rfl rfl) h0 (fun n hn => of_decide_eq_true (List.all_eq_true.1 hsz _ (DataW.weights_mem_each (j := 0) (t := 9) rfl rfl n hn)))
  have hG := GV.of_laid hL
  clear hA0 hval0 hL
  refine (texts_walk C s0 W hG (by unfold reachBytes at zs0; omega)).mono fun e W' ⟨he, hb⟩ => ⟨_, he, post_law rfl hW' rfl rfl ?_ hb⟩
  intro t ht
  rw [Tryd.params6] at ht
  simp only [List.mem_cons, List.not_mem_nil, or_false] at ht
  subst ht <;> exact ⟨by kernel_rfl, of_decide_eq_true (by kernel_rfl)⟩

theorem lexTexts_holds (C : LexC) : Rows.LexTextsSaid :=
  OpenClaim.holds_of_wide 6 Tryd.f6 rfl rfl rfl rfl rfl rfl rfl ⟨rfl, rfl, rfl, rfl, rfl⟩ rfl rfl rfl rfl rfl (by kernel_rfl) Tryd.func6 (by kernel_rfl)
    (of_decide_eq_true (by kernel_rfl)) (by unfold Func.isWrapper; rw [if_neg (of_decide_eq_false (by kernel_rfl))]; exact ⟨rfl, rfl⟩)
    (fun os started H enc _ => lexTexts_lifted C os started H enc)

set_option maxRecDepth 100000 in
theorem lexTexts_card (C : LexC) : Rows.LexTextsCardSaid :=
  Claim7.holds_tied_plain_at .later [] Rows.lexTextsCard.laidKinds true Rows.lexTextsCard.stood.harness true (lexTexts_holds C) (fun _ h => by cases h) (by kernel_rfl) (fun _ h => by cases h) lexTexts_row_tie rfl ⟨rfl, rfl⟩ (by kernel_rfl) rfl
    (fun f fn hf hfn => by
      obtain rfl : f = 6 := Option.some.inj ((show Tryd.prog.funcNamed "weathercock/weathercocklaw07.LexTexts" = some 6 by kernel_rfl).symm.trans hf) |>.symm
      obtain rfl : fn = Tryd.f6 := (Option.some.inj (Tryd.func6.symm.trans hfn)).symm
      exact ⟨by kernel_rfl, fun j t ht => by
        rw [Tryd.params6] at ht
        have hm : t ∈ [9] := by simpa using Array.mem_of_getElem? ht
        have hall : ([9].all fun u => !Tryd.prog.wantsStandIn u) = true := by kernel_rfl
        exact (show Tryd.prog.wantsStandIn t = false by simpa using List.all_eq_true.1 hall t hm)⟩)
    (by kernel_rfl)

#print axioms lexTexts_card

end Go.Proofs.YtejfjlbnehdgnaaDoor
