/- LexReads: any text is the tokens that the reference says, or refused, at the place; twice. (Over the contract of Lex.) -/
import Derived.Test.YtejfjlbnehdgnaaDoorLxRX
import Derived.Test.YtejfjlbnehdgnaaDoorWord
import Derived.Test.YtejfjlbnehdgnaaDoorLcL
namespace Go.Proofs.YtejfjlbnehdgnaaDoor
open Go.ChangeShapes Go.WideShapes Go.ChangeAt Go.RowKit Go.Joins
set_option maxRecDepth 100000

theorem lex_own (C : LexC) (s : ByteArray) (w : World) (hG : GV w) (hs : s.size ≤ 9223372036854775807) (r : Res) (hr : lexS s.data.toList = r) :
    Calls Tryd.prog 11 #[.string s] w fun e w' => (∃ q c, e = .returned (.tuple #[.slice q r.list.length c, .int .i64 (r.er : Int), .int .i64 (r.pl : Int)]) ∧ r.list.length ≤ 400 ∧ (0 < r.list.length → OwnF w' w.heap.size 32 4 tokCell (.slice q r.list.length c) r.list)) ∧ Below w.heap.size w w' := by
  cases r with
  | ok L =>
    refine (C.good s L w hG hs hr).mono ?_
    rintro e w' ⟨⟨q, c, rfl, ho⟩, hb⟩
    exact ⟨⟨q, c, rfl, by have := lexL_most _ 0 0 L (by omega) (lexS_ok hr).2; show L.length ≤ 400; omega, fun _ => ho⟩, hb⟩
  | err er a =>
    refine (C.bad s er a w hG hs hr).mono ?_
    rintro e w' ⟨⟨q, c, rfl⟩, hb⟩
    exact ⟨⟨q, c, rfl, Nat.zero_le _, fun h => absurd h (Nat.lt_irrefl 0)⟩, hb⟩

set_option maxHeartbeats 4000000 in
theorem reads_walk (C : LexC) (s : ByteArray) (w : World) (hG : GV w) (hs : s.size ≤ 9223372036854775807) :
    Calls Tryd.prog 3 #[.string s] w fun e w' => e = .returned (.bool true) ∧ Below w.heap.size w w' := by
  go_enter Tryd.func3, Tryd.ntmps3
  go_wp2_with fail
  refine (ex7_any C _ hG).mono ?_
  rintro e w1 ⟨rfl, hb1⟩
  have hs1 := hb1.size
  have B1 := Lib.hid hb1
  clear hb1
  obtain ⟨r, hr⟩ : ∃ r, lexS s.data.toList = r := ⟨_, rfl⟩
  have HR := Lib.hid hr
  have CR := Lib.hid (rlex_any s w1 hs r hr)
  clear hr
  go_wp2_with fail
  refine (CR.out).mono ?_
  rintro e w2 ⟨⟨q0, c0, rfl, hc1, hc2, arW⟩, hb2⟩
  have AW := Lib.hid arW
  have B2 := Lib.hid (B1.out.trans (hb2.mono hs1))
  have hs2 := B2.out.size
  clear arW hb2 CR
  obtain ⟨n, hn⟩ : ∃ n, n = r.list.length := ⟨_, rfl⟩
  have HN := Lib.hid hn
  rw [← hn] at hc1
  rw [← hn]
  clear hn
  go_wp2_with fail
  go_loopw [7] (fun vi wr => ∃ t : Nat, vi = .int .i64 t ∧ t ≤ 2 ∧ Hid (Below w2.heap.size w2 wr)) (fun vi _ => 2 - (intOf vi).toNat)
  case atStart => exact ⟨0, rfl, by omega, Below.refl _ _⟩
  case round =>
    obtain ⟨t, rfl, ht, HH⟩ := hrel
    obtain ⟨V, hV⟩ : ∃ V, V = wr := ⟨_, rfl⟩
    rw [← hV] at HH
    rw [← hV]
    clear hV
    by_cases hlt : t < 2
    · have CL := Lib.hid (lex_own C s V (hG.on (B2.out.trans (HH.out.mono hs2))) hs r HR.out)
      rw [← HN.out] at CL
      go_wp2_with fail
      refine (CL.out).mono ?_
      rintro e Z ⟨⟨q, c, rfl, k400, hOwn⟩, hbZ⟩
      have O0 := Lib.hid (And.intro hbZ hOwn)
      clear hbZ hOwn CL
      go_wp2_with fail
      go_loopw [11] (fun vi wr => ∃ i : Nat, vi = .int .i64 i ∧ i ≤ n ∧ Hid (Below V.heap.size V wr ∧ ∃ L' : List Tok, L'.length = n ∧ (∀ m, i ≤ m → L'[m]? = r.list[m]?) ∧ (0 < n → OwnF wr V.heap.size 32 4 tokCell (.slice q n c) L'))) (fun vi _ => n - (intOf vi).toNat)
      case atStart => exact ⟨0, rfl, Nat.zero_le _, O0.out.1, r.list, HN.out.symm, fun _ _ => rfl, O0.out.2⟩
      case round =>
        clear O0
        obtain ⟨i, rfl, hi, HJ⟩ := hrel
        obtain ⟨X, hX⟩ : ∃ X, X = wr := ⟨_, rfl⟩
        rw [← hX] at HJ
        rw [← hX]
        clear hX
        by_cases hin : i < n
        · obtain ⟨hbX, L', hL1, hL2, hL3⟩ := HJ.out
          have OX := hL3 (by omega)
          obtain ⟨u, hu⟩ : ∃ u, r.list[i]? = some u := ⟨_, List.getElem?_eq_getElem (by rw [← HN.out]; exact hin)⟩
          have hu2 : L'[i]? = some u := (hL2 i (Nat.le_refl _)).trans hu
          obtain ⟨g, rfl, -, hgV, hgX⟩ := OX.at_ (by omega)
          obtain ⟨x0, hf⟩ := OX.cellAt tokCell_len (k := 0) hu2 rfl
          have x1 := (OX.cellAt tokCell_len (k := 1) hu2 rfl).1
          have x2 := (OX.cellAt tokCell_len (k := 2) hu2 rfl).1
          have x3 := (OX.cellAt tokCell_len (k := 3) hu2 rfl).1
          have BX := Lib.hid (HH.out.trans (hbX.mono HH.out.size))
          obtain ⟨g0, off0, rfl, -, hg0, hcW⟩ := AW.out i (by rw [← HN.out]; exact hin)
          have y := hcW i u hu
          have y0 := (BX.out.cell (p := ⟨g0, _, none⟩) hg0).trans y.c0
          have y1 := (BX.out.cell (p := ⟨g0, _, none⟩) hg0).trans y.c1
          have y2 := (BX.out.cell (p := ⟨g0, _, none⟩) hg0).trans y.c2
          have y3 := (BX.out.cell (p := ⟨g0, _, none⟩) hg0).trans y.c3
          have HEQ := Lib.hid (Tryd.sameTok u.kd u.n u.at_ (bsB u.s))
          have hgt := Lib.hid Tryd.tokGuard
          have HK := Lib.hid (And.intro hbX (And.intro OX (And.intro hL1 (And.intro hL2 hu2))))
          clear hcW y hu hu2 OX hL1 hL2 hL3 hbX BX
          go_wp2_with fail
          obtain ⟨A, hA⟩ : ∃ A, A = X.alloc (.cells #[.int .i64 (u.kd : Int), .int .i64 (u.n : Int), .int .i64 (u.at_ : Int), .string (bsB u.s)] 31) := ⟨_, rfl⟩
          rw [← hA]
          obtain ⟨n0, n1, n2, n3, -⟩ := tokNew X u.kd u.n u.at_ (bsB u.s) 31
          rw [← hA] at n0 n1 n2 n3
          have hbA : Below X.heap.size X A := by rw [hA]; exact ext_alloc (ext_refl _) _
          rw [Nat.add_zero] at x0
          replace x0 := (hbA.cell (p := ⟨g, _, none⟩) hgX).trans x0
          replace x1 := (hbA.cell (p := ⟨g, _, none⟩) hgX).trans x1
          replace x2 := (hbA.cell (p := ⟨g, _, none⟩) hgX).trans x2
          replace x3 := (hbA.cell (p := ⟨g, _, none⟩) hgX).trans x3
          have hf2 : ∀ o, A.frozen? ⟨g, o, none⟩ = false := fun o => (hbA.frozen (p := ⟨g, o, none⟩) hgX).trans (hf o)
          have HbA := Lib.hid hbA
          clear hbA hA y0 y1 y2 y3 hf
          refine wp_region_quiet_lit (by kernel_rfl) (by kernel_rfl) ?_
          iterate 13 (go_big_quiet_step (fail))
          go_big_quiet_want
          refine quiet_neq _ _ 32 _ rfl _ _ _ rfl rfl hgt.out HEQ.out ?_
          go_simp
          go_big_quiet_on
          repeat (go_big_quiet_step (fail))
          refine wpQuiet_nil ?_
          intro _ hw'
          obtain ⟨nr, hw''⟩ := hw'
          subst hw''
          clear n0 n1 n2 n3
          go_wp2_with fail
          obtain ⟨hbX, OX, hL1, hL2, hu2⟩ := HK.out
          have O1 := OX.later (ext_drewN HbA.out nr)
          have hl1 : i < L'.length := by omega
          have O2 := O1.setc tokCell_len (k := 0) (x' := ⟨0, u.n, u.at_, u.s⟩) (u := .int .i64 0) hu2 (by decide) rfl
          have O3 := O2.setc tokCell_len (j := i) (k := 1) (x := ⟨0, u.n, u.at_, u.s⟩) (x' := ⟨0, 0, u.at_, u.s⟩) (u := .int .i64 0) (by rw [List.getElem?_set_self hl1]) (by decide) rfl
          have O4 := O3.setc tokCell_len (j := i) (k := 2) (x := ⟨0, 0, u.at_, u.s⟩) (x' := ⟨0, 0, 0, u.s⟩) (u := .int .i64 0) (by rw [List.getElem?_set_self (by rw [List.length_set]; exact hl1)]) (by decide) rfl
          have O5 := O4.setc tokCell_len (j := i) (k := 3) (x := ⟨0, 0, 0, u.s⟩) (x' := ⟨0, 0, 0, []⟩) (u := .string ⟨#[]⟩) (by rw [List.getElem?_set_self (by rw [List.length_set, List.length_set]; exact hl1)]) (by decide) rfl
          rw [List.set_set, List.set_set, List.set_set] at O5
          have hbN : Below V.heap.size V ((((A.drewN nr).setCell ⟨g, i * 4, none⟩ (.int .i64 0)).setCell ⟨g, i * 4 + 1, none⟩ (.int .i64 0)).setCell ⟨g, i * 4 + 2, none⟩ (.int .i64 0) |>.setCell ⟨g, i * 4 + 3, none⟩ (.string ⟨#[]⟩)) :=
            ((((hbX.trans ((ext_drewN HbA.out nr).mono hbX.size)).setCell hgV _).setCell hgV _).setCell hgV _).setCell hgV _
          go_roundw
          case rel =>
            refine ⟨i + 1, by go_num, hin, hbN, L'.set i ⟨0, 0, 0, []⟩, by rw [List.length_set]; exact hL1, fun m hm => ?_, fun _ => O5⟩
            rw [List.getElem?_set_ne (by omega)]
            exact hL2 m (by omega)
          case measure => simp [intOf] <;> omega
        · obtain rfl : i = n := by omega
          have BX := Lib.hid (HH.out.trans (HJ.out.1.mono HH.out.size))
          clear HN HJ
          go_wp2_with fail
          go_roundw
          case rel => exact ⟨t + 1, by go_num, by omega, BX.out⟩
          case measure => simp [intOf] <;> omega
    · obtain rfl : t = 2 := by omega
      have BE := Lib.hid (B2.out.trans (HH.out.mono hs2))
      clear HN HR
      go_wp2_with fail
      go_ret
      exact ⟨rfl, BE.out⟩

/- FRAME -/

set_option maxRecDepth 100000 in
theorem lexReads_lifted (C : LexC) (os : Os) (started : os.Started) (H : Type) (enc : TypeId × Value → H) :
    ReturnsInHanded {} Tryd.checked os 3 .any (fun w args => (Rows.lexReadsSpec.pre enc Tryd.prog Tryd.f3 Rows.lexReadsRow.domain false w args ∧ laidMetH Tryd.prog laidVars w) ∧ sizedMet enc Tryd.prog Tryd.f3 (OpenSpec.ofChange Rows.lexReadsSpec) false w args) (Rows.lexReadsSpec.post enc Tryd.prog Tryd.f3 false true false false) := by
  refine returnsInHanded_of_change_and (C := Tryd.checked) (X := fun w _ => laidMetH Tryd.prog laidVars w) (fun _ _ _ hh h => h.of_heap hh) Tryd.own started (by kernel_rfl) Tryd.func3
    (ChangeSpec.witness_shaped (enc := enc) (C := Tryd.checked) (os := os) (X := fun w _ => laidMetH Tryd.prog laidVars w) false (World.laidAll Tryd.prog os laidVars) #[.string ⟨#[]⟩] 8 (World.laidAll_os _ _ _)
      (wit_shaped os _) (by kernel_rfl) (by kernel_rfl) (by kernel_rfl) (wit_met os _)) ?_
  intro W base args ds gs before hval0 hW _ hsz hL _
  have hval : ∀ (j : Nat) t v, Tryd.f3.params[j]? = some t → args[j]? = some v → Value.okWide Tryd.prog W .any base t v := hval0
  have hW' := hW
  obtain ⟨p, q, hA0, hV, rfl, _, _⟩ := hW
  have hA : DataW.TrodAll enc Tryd.prog W 0 (fun _ => true) true Tryd.f3.params.toList args.toList ds p := hA0
  rw [Tryd.params3] at hA hval hsz
  obtain ⟨v0, d0, rfl, rfl, h0⟩ := trodAll_one hA
  obtain ⟨s0, rfl, zs0⟩ := open_word6 (hval 0 9 v0 rfl rfl) h0 (fun n hn => of_decide_eq_true (List.all_eq_true.1 hsz _ (DataW.weights_mem_each (j := 0) (t := 9) rfl rfl n hn)))
  have hG := GV.of_laid hL
  clear hA0 hval0 hL
  refine (reads_walk C s0 W hG (by unfold reachBytes at zs0; omega)).mono fun e W' ⟨he, hb⟩ => ⟨_, he, post_law rfl hW' rfl rfl ?_ hb⟩
  intro t ht
  rw [Tryd.params3] at ht
  simp only [List.mem_cons, List.not_mem_nil, or_false] at ht
  subst ht <;> exact ⟨by kernel_rfl, of_decide_eq_true (by kernel_rfl)⟩

theorem lexReads_holds (C : LexC) : Rows.LexReadsSaid :=
  OpenClaim.holds_of_wide 3 Tryd.f3 rfl rfl rfl rfl rfl rfl rfl ⟨rfl, rfl, rfl, rfl, rfl⟩ rfl rfl rfl rfl rfl (by kernel_rfl) Tryd.func3 (by kernel_rfl)
    (of_decide_eq_true (by kernel_rfl)) (by unfold Func.isWrapper; rw [if_neg (of_decide_eq_false (by kernel_rfl))]; exact ⟨rfl, rfl⟩)
    (fun os started H enc _ => lexReads_lifted C os started H enc)

set_option maxRecDepth 100000 in
theorem lexReads_card (C : LexC) : Rows.LexReadsCardSaid :=
  Claim7.holds_tied_plain_at .later [] Rows.lexReadsCard.laidKinds true Rows.lexReadsCard.stood.harness true (lexReads_holds C) (fun _ h => by cases h) (by kernel_rfl) (fun _ h => by cases h) lexReads_row_tie rfl ⟨rfl, rfl⟩ (by kernel_rfl) rfl
    (fun f fn hf hfn => by
      obtain rfl : f = 3 := Option.some.inj ((show Tryd.prog.funcNamed "weathercock/weathercocklaw07.LexReads" = some 3 by kernel_rfl).symm.trans hf) |>.symm
      obtain rfl : fn = Tryd.f3 := (Option.some.inj (Tryd.func3.symm.trans hfn)).symm
      exact ⟨by kernel_rfl, fun j t ht => by
        rw [Tryd.params3] at ht
        have hm : t ∈ [9] := by simpa using Array.mem_of_getElem? ht
        have hall : ([9].all fun u => !Tryd.prog.wantsStandIn u) = true := by kernel_rfl
        exact (show Tryd.prog.wantsStandIn t = false by simpa using List.all_eq_true.1 hall t hm)⟩)
    (by kernel_rfl)

#print axioms lexReads_card

end Go.Proofs.YtejfjlbnehdgnaaDoor
