/- LexPlaces: tokens stand in their order, each at its first byte, none within another one; nothing but blanks stands between: the law answers true, whatever the text. (Over the contract of Lex.) -/
import Derived.Test.YtejfjlbnehdgnaaDoorLxD
import Derived.Test.YtejfjlbnehdgnaaDoorWord
import Derived.Test.YtejfjlbnehdgnaaDoorLcL
namespace Go.Proofs.YtejfjlbnehdgnaaDoor
open Go.ChangeShapes Go.WideShapes Go.ChangeAt Go.RowKit Go.Joins
set_option maxRecDepth 100000

theorem ahead_step {l : Bs} {k : Nat} {b : UInt8} (hb : l[k]? = some b) (hk : k ≤ ahead l) : k < ahead l ↔ isBlank b = true := by
  induction l generalizing k with
  | nil => simp at hb
  | cons c l ih =>
    cases hc : isBlank c with
    | false =>
      have e : ahead (c :: l) = 0 := by unfold ahead; rw [hc]; rfl
      rw [e] at hk ⊢
      obtain rfl : k = 0 := by omega
      simp at hb
      subst hb
      rw [hc]
      simp
    | true =>
      have e : ahead (c :: l) = ahead l + 1 := by rw [ahead, hc]; rfl
      rw [e] at hk ⊢
      cases k with
      | zero => simp at hb; subst hb; rw [hc]; simp
      | succ k => rw [← ih (by simpa using hb) (by omega)]; omega
theorem ahead_le (l : Bs) : ahead l ≤ l.length := by
  induction l with
  | nil => exact Nat.le_refl _
  | cons c l ih =>
    rw [ahead, List.length_cons]
    split <;> omega

set_option maxHeartbeats 4000000 in
theorem places_walk (C : LexC) (s : ByteArray) (w : World) (hG : GV w) (hs : s.size ≤ 9223372036854775807) :
    Calls Tryd.prog 4 #[.string s] w fun e w' => e = .returned (.bool true) ∧ Below w.heap.size w w' := by
  have hsl : s.data.toList.length = s.size := Array.length_toList
  go_enter Tryd.func4, Tryd.ntmps4
  go_wp2_with fail
  refine (ex7_any C _ hG).mono ?_
  rintro e w1 ⟨rfl, hb1⟩
  have hs1 := hb1.size
  have B1 := Lib.hid hb1
  clear hb1
  cases hR : lexS s.data.toList with
  | err er a =>
    obtain ⟨h1, h2⟩ := lexS_err hR
    rw [hsl] at h2
    have CB := Lib.hid (C.bad s er a w1 (hG.on B1.out) hs hR)
    clear hR hsl
    go_wp2_with fail
    refine (CB.out).mono ?_
    rintro e w2 ⟨⟨q, c, rfl⟩, hb2⟩
    have B2 := Lib.hid (B1.out.trans (hb2.mono hs1))
    have hz : (a : Int) ≤ (s.size : Int) := by omega
    clear hb2 CB
    rcases h1 with rfl | rfl
    · go_wp2_with fail
      go_ret
      exact ⟨rfl, B2.out⟩
    · go_wp2_with fail
      go_ret
      exact ⟨rfl, B2.out⟩
  | ok L =>
    obtain ⟨h1, h2⟩ := lexS_ok hR
    have P := Lib.hid (lexL_places _ 0 0 L h2)
    have F := Lib.hid (lexL_first _ 0 0 L h2)
    have CG := Lib.hid (C.good s L w1 (hG.on B1.out) hs hR)
    have HSL := Lib.hid hsl
    clear hR h1 h2 hsl
    go_wp2_with fail
    refine (CG.out).mono ?_
    rintro e w2 ⟨⟨q, c, rfl, hO⟩, hb2⟩
    obtain ⟨-, k1, k2, hA⟩ := hO.toks
    have A := Lib.hid hA
    have B2 := Lib.hid (B1.out.trans (hb2.mono hs1))
    have hs2 := B2.out.size
    clear hO hA hb2 CG
    go_wp2_with fail
    go_loopw [8, 7] (fun vi vl wr => ∃ i last : Nat, vi = .int .i64 i ∧ vl = .int .i64 last ∧ i ≤ L.length ∧ last ≤ 9223372036854775807 ∧ Hid ((i = 0 → last = 0) ∧ (∀ t, 0 < i → L[i - 1]? = some t → last = t.at_) ∧ Below w2.heap.size w2 wr)) (fun vi _ _ => L.length - (intOf vi).toNat)
    case atStart => exact ⟨0, 0, rfl, rfl, Nat.zero_le _, by omega, fun _ => rfl, fun t h => by omega, Below.refl _ _⟩
    case round =>
      obtain ⟨i, last, rfl, rfl, hi, hl9, HH⟩ := hrel
      obtain ⟨V, hV⟩ : ∃ V, V = wr := ⟨_, rfl⟩
      subst hV
      by_cases hlt : i < L.length
      · obtain ⟨t, ht⟩ : ∃ t, L[i]? = some t := ⟨_, List.getElem?_eq_getElem hlt⟩
        obtain ⟨k, b, p1, p2, p3⟩ := P.out.1 t (List.mem_of_getElem? ht)
        obtain ⟨p4, p5⟩ := byt_data p2
        rw [Nat.zero_add] at p1
        obtain ⟨g, off, rfl, -, hg, hcA⟩ := A.out i hlt
        have hc2 := (hcA i t ht).c2
        have x2 := (HH.out.2.2.cell (p := ⟨g, _, none⟩) hg).trans hc2
        rw [p1] at x2
        have hlast : last ≤ k := by
          by_cases h0 : i = 0
          · rw [HH.out.1 h0]; exact Nat.zero_le _
          · obtain ⟨u, hu⟩ : ∃ u, L[i - 1]? = some u := ⟨_, List.getElem?_eq_getElem (by omega)⟩
            have e := HH.out.2.1 u (by omega) hu
            have hp := List.pairwise_iff_getElem.1 P.out.2 (i - 1) i (by omega) hlt (by omega)
            rw [(List.getElem?_eq_some_iff.1 hu).2, (List.getElem?_eq_some_iff.1 ht).2] at hp
            omega
        have z1 : ¬ (k : Int) < (last : Int) := by omega
        have z2 : ¬ (k : Int) ≥ (s.size : Int) := by omega
        have z3 : (k : Int) < (s.size : Int) := by omega
        obtain ⟨n1, n2, n3, n4⟩ := not_blank p3
        rw [← p5] at n1 n2 n3 n4
        have eb := byt_at s k p4
        obtain ⟨x, hx⟩ : ∃ x, x = byt s k := ⟨_, rfl⟩
        rw [← hx] at eb n1 n2 n3 n4
        have NX := Lib.hid (show ∀ W', Below w2.heap.size w2 W' → (i + 1 = 0 → k = 0) ∧ (∀ u, 0 < i + 1 → L[i + 1 - 1]? = some u → k = u.at_) ∧ Below w2.heap.size w2 W' from fun W' hb => ⟨fun h => by omega, fun u _ hu => by rw [Nat.add_sub_cancel, ht] at hu; cases hu; exact p1.symm, hb⟩)
        have HX := Lib.hid hx
        by_cases hi0 : 0 < i
        · obtain ⟨j, rfl⟩ : ∃ j, i = j + 1 := ⟨i - 1, by omega⟩
          obtain ⟨u, hu⟩ : ∃ u, L[j]? = some u := ⟨_, List.getElem?_eq_getElem (by omega)⟩
          have hp := List.pairwise_iff_getElem.1 P.out.2 j (j + 1) (by omega) hlt (by omega)
          rw [(List.getElem?_eq_some_iff.1 hu).2, (List.getElem?_eq_some_iff.1 ht).2, p1] at hp
          have y2 := (HH.out.2.2.cell (p := ⟨g, _, none⟩) hg).trans (hcA j u hu).c2
          have hne : ((k : Int) == (u.at_ : Int)) = false := by rw [beq_eq_false_iff_ne]; omega
          have z4 : (j : Int) + 1 > 0 := by omega
          have z5 : (j : Int) < (L.length : Int) := by omega
          have m1 : (x == 32) = false := by rw [beq_eq_false_iff_ne]; exact n1
          have m2 : (x == 9) = false := by rw [beq_eq_false_iff_ne]; exact n2
          have m3 : (x == 10) = false := by rw [beq_eq_false_iff_ne]; exact n3
          have m4 : (x == 13) = false := by rw [beq_eq_false_iff_ne]; exact n4
          clear hcA hc2 ht hu hx p1 p2 p3 p5 n1 n2 n3 n4 hp
          go_wp2_with fail
          go_big_quiet (fail)
          clear y2 hne
          go_wp2_with fail
          go_roundw
          case rel => exact ⟨(j + 1) + 1, k, by go_num, rfl, by omega, by omega, NX.out _ (HH.out.2.2.trans ((ext_drewN (ext_refl _) nq).mono HH.out.2.2.size))⟩
          case measure => simp [intOf] <;> omega
        · obtain rfl : i = 0 := by omega
          have m1 : (x == 32) = false := by rw [beq_eq_false_iff_ne]; exact n1
          have m2 : (x == 9) = false := by rw [beq_eq_false_iff_ne]; exact n2
          have m3 : (x == 10) = false := by rw [beq_eq_false_iff_ne]; exact n3
          have m4 : (x == 13) = false := by rw [beq_eq_false_iff_ne]; exact n4
          clear hcA hc2 ht hx p1 p2 p3 p5 n1 n2 n3 n4
          go_wp2_with fail
          go_big_quiet (fail)
          go_wp2_with fail
          go_roundw
          case rel => exact ⟨0 + 1, k, by go_num, rfl, by omega, by omega, NX.out _ (HH.out.2.2.trans ((ext_drewN (ext_refl _) nq).mono HH.out.2.2.size))⟩
          case measure => simp [intOf] <;> omega
      · have hin : i = L.length := by omega
        subst hin
        have hst : ahead s.data.toList ≤ s.size := by rw [← HSL.out]; exact ahead_le _
        have BV := Lib.hid (B2.out.trans (HH.out.2.2.mono hs2))
        have AV := Lib.hid (A.out.imp (P' := TokC V) (fun g o t _ hg h => ⟨(HH.out.2.2.cell (p := ⟨g, _, none⟩) hg).trans h.c0, (HH.out.2.2.cell (p := ⟨g, _, none⟩) hg).trans h.c1, (HH.out.2.2.cell (p := ⟨g, _, none⟩) hg).trans h.c2, (HH.out.2.2.cell (p := ⟨g, _, none⟩) hg).trans h.c3⟩))
        clear HH
        go_wp2_with fail
        go_loopw [10] (fun vi wr => ∃ k : Nat, vi = .int .i64 k ∧ k ≤ ahead s.data.toList ∧ V = wr) (fun vi _ => s.size - (intOf vi).toNat)
        case atStart => exact ⟨0, rfl, Nat.zero_le _, rfl⟩
        case round =>
          obtain ⟨k, rfl, hk, rfl⟩ := hrel
          by_cases hks : k < s.size
          · obtain ⟨b, hb⟩ : ∃ b, s.data.toList[k]? = some b := ⟨_, List.getElem?_eq_getElem (by rw [HSL.out]; exact hks)⟩
            obtain ⟨p4, p5⟩ := byt_data hb
            have eb := byt_at s k p4
            obtain ⟨x, hx⟩ : ∃ x, x = byt s k := ⟨_, rfl⟩
            rw [← hx] at eb p5
            have hst2 := ahead_step hb hk
            clear hx
            cases hbl : isBlank b with
            | true =>
              have h1 := yes_blank hbl
              rw [← p5] at h1
              have h2 := hst2.2 hbl
              clear hst2 p5 hb hbl
              rcases h1 with rfl | rfl | rfl | rfl
              all_goals go_wp2_with fail
              all_goals go_roundw
              case rel => exact ⟨k + 1, by go_num, h2, trivial⟩
              case rel => exact ⟨k + 1, by go_num, h2, trivial⟩
              case rel => exact ⟨k + 1, by go_num, h2, trivial⟩
              case rel => exact ⟨k + 1, by go_num, h2, trivial⟩
              all_goals (have e1 : (intOf (Value.int IntKind.i64 ((k : Int) + 1))).toNat = k + 1 := (by simp [intOf] <;> omega); have e2 : (intOf (Value.int IntKind.i64 (k : Int))).toNat = k := (by simp [intOf]); rw [e1, e2]; omega)
            | false =>
              obtain ⟨n1, n2, n3, n4⟩ := not_blank hbl
              rw [← p5] at n1 n2 n3 n4
              have hka : k = ahead s.data.toList := by
                have := fun h => hst2.1 h
                rw [hbl] at this
                have h3 : ¬ k < ahead s.data.toList := fun h => by cases this h
                omega
              have m1 : (x == 32) = false := by rw [beq_eq_false_iff_ne]; exact n1
              have m2 : (x == 9) = false := by rw [beq_eq_false_iff_ne]; exact n2
              have m3 : (x == 10) = false := by rw [beq_eq_false_iff_ne]; exact n3
              have m4 : (x == 13) = false := by rw [beq_eq_false_iff_ne]; exact n4
              have hF := F.out
              clear hst2 p5 hb hbl n1 n2 n3 n4 F
              cases L with
              | nil => exact absurd (hF.1.1 rfl) (by rw [HSL.out]; omega)
              | cons t B =>
                have ht := hF.2 t B rfl
                rw [Nat.zero_add, ← hka] at ht
                obtain ⟨g, off, rfl, -, hg, hcA⟩ := AV.out 0 (Nat.succ_pos _)
                have x2 := (hcA 0 t rfl).c2
                rw [ht] at x2
                simp only [Nat.zero_mul, Nat.add_zero] at x2
                have z1 : ((B.length : Int) + 1 == 0) = false := by rw [beq_eq_false_iff_ne]; omega
                have z2 : ((k : Int) == (s.size : Int)) = false := by rw [beq_eq_false_iff_ne]; omega
                have z3 : (0 : Int) < ((t :: B).length : Int) := by rw [List.length_cons]; omega
                clear hF ht hcA hka
                go_wp2_with fail
                go_ret
                exact ⟨rfl, BV.out⟩
          · have hF := F.out
            have hka : k = s.size := by omega
            subst hka
            obtain rfl : L = [] := hF.1.2 (by rw [HSL.out]; omega)
            clear hF F
            go_wp2_with fail
            go_ret
            exact ⟨rfl, BV.out⟩

/- FRAME -/

set_option maxRecDepth 100000 in
theorem lexPlaces_lifted (C : LexC) (os : Os) (started : os.Started) (H : Type) (enc : TypeId × Value → H) :
    ReturnsInHanded {} Tryd.checked os 4 .any (fun w args => (Rows.lexPlacesSpec.pre enc Tryd.prog Tryd.f4 Rows.lexPlacesRow.domain false w args ∧ laidMetH Tryd.prog laidVars w) ∧ sizedMet enc Tryd.prog Tryd.f4 (OpenSpec.ofChange Rows.lexPlacesSpec) false w args) (Rows.lexPlacesSpec.post enc Tryd.prog Tryd.f4 false true false false) := by
  refine returnsInHanded_of_change_and (C := Tryd.checked) (X := fun w _ => laidMetH Tryd.prog laidVars w) (fun _ _ _ hh h => h.of_heap hh) Tryd.own started (by kernel_rfl) Tryd.func4
    (ChangeSpec.witness_shaped (enc := enc) (C := Tryd.checked) (os := os) (X := fun w _ => laidMetH Tryd.prog laidVars w) false (World.laidAll Tryd.prog os laidVars) #[.string ⟨#[]⟩] 8 (World.laidAll_os _ _ _)
      (wit_shaped os _) (by kernel_rfl) (by kernel_rfl) (by kernel_rfl) (wit_met os _)) ?_
  intro W base args ds gs before hval0 hW _ hsz hL _
  have hval : ∀ (j : Nat) t v, Tryd.f4.params[j]? = some t → args[j]? = some v → Value.okWide Tryd.prog W .any base t v := hval0
  have hW' := hW
  obtain ⟨p, q, hA0, hV, rfl, _, _⟩ := hW
  have hA : DataW.TrodAll enc Tryd.prog W 0 (fun _ => true) true Tryd.f4.params.toList args.toList ds p := hA0
  rw [Tryd.params4] at hA hval hsz
  obtain ⟨v0, d0, rfl, rfl, h0⟩ := trodAll_one hA
  obtain ⟨s0, rfl, zs0⟩ := open_word6 (hval 0 9 v0 rfl rfl) h0 (fun n hn => of_decide_eq_true (List.all_eq_true.1 hsz _ (DataW.weights_mem_each (j := 0) (t := 9) rfl rfl n hn)))
  have hG := GV.of_laid hL
  clear hA0 hval0 hL
  refine (places_walk C s0 W hG (by unfold reachBytes at zs0; omega)).mono fun e W' ⟨he, hb⟩ => ⟨_, he, post_law rfl hW' rfl rfl ?_ hb⟩
  intro t ht
  rw [Tryd.params4] at ht
  simp only [List.mem_cons, List.not_mem_nil, or_false] at ht
  subst ht <;> exact ⟨by kernel_rfl, of_decide_eq_true (by kernel_rfl)⟩

theorem lexPlaces_holds (C : LexC) : Rows.LexPlacesSaid :=
  OpenClaim.holds_of_wide 4 Tryd.f4 rfl rfl rfl rfl rfl rfl rfl ⟨rfl, rfl, rfl, rfl, rfl⟩ rfl rfl rfl rfl rfl (by kernel_rfl) Tryd.func4 (by kernel_rfl)
    (of_decide_eq_true (by kernel_rfl)) (by unfold Func.isWrapper; rw [if_neg (of_decide_eq_false (by kernel_rfl))]; exact ⟨rfl, rfl⟩)
    (fun os started H enc _ => lexPlaces_lifted C os started H enc)

set_option maxRecDepth 100000 in
theorem lexPlaces_card (C : LexC) : Rows.LexPlacesCardSaid :=
  Claim7.holds_tied_plain_at .later [] Rows.lexPlacesCard.laidKinds true Rows.lexPlacesCard.stood.harness true (lexPlaces_holds C) (fun _ h => by cases h) (by kernel_rfl) (fun _ h => by cases h) lexPlaces_row_tie rfl ⟨rfl, rfl⟩ (by kernel_rfl) rfl
    (fun f fn hf hfn => by
      obtain rfl : f = 4 := Option.some.inj ((show Tryd.prog.funcNamed "weathercock/weathercocklaw07.LexPlaces" = some 4 by kernel_rfl).symm.trans hf) |>.symm
      obtain rfl : fn = Tryd.f4 := (Option.some.inj (Tryd.func4.symm.trans hfn)).symm
      exact ⟨by kernel_rfl, fun j t ht => by
        rw [Tryd.params4] at ht
        have hm : t ∈ [9] := by simpa using Array.mem_of_getElem? ht
        have hall : ([9].all fun u => !Tryd.prog.wantsStandIn u) = true := by kernel_rfl
        exact (show Tryd.prog.wantsStandIn t = false by simpa using List.all_eq_true.1 hall t hm)⟩)
    (by kernel_rfl)

#print axioms lexPlaces_card

end Go.Proofs.YtejfjlbnehdgnaaDoor
