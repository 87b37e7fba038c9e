/- LexCase: words and names are the same in great letters and in small ones: the law answers true. (Over the contract of Lex.) -/
import Derived.Test.YtejfjlbnehdgnaaDoorLxE
import Derived.Lib.ConvBytes
import Derived.Lib.AtoiErrMem
import Derived.Laws.IdiomStrings
import Derived.Test.YtejfjlbnehdgnaaDoorWord
import Derived.Test.YtejfjlbnehdgnaaDoorLcL
namespace Go.Proofs.YtejfjlbnehdgnaaDoor
open Go.ChangeShapes Go.WideShapes Go.ChangeAt Go.RowKit Go.Joins
set_option maxRecDepth 100000

/-- Bytes in a block of their own, which may be written. -/
def ByteC (w : World) (g : Nat) (l : Bs) : Prop := ∀ j b, l[j]? = some b → w.cell? ⟨g, j, none⟩ = some (.int .u8 (b.toNat : Int)) ∧ w.frozen? ⟨g, j, none⟩ = false
theorem byteC_new (w : World) (e : TypeId) (s : ByteArray) : ByteC (Lib.bytesWorld w e s) w.heap.size s.data.toList := fun j b hb => by
  have hj := (List.getElem?_eq_some_iff.1 hb).1
  rw [Array.length_toList] at hj
  refine ⟨?_, ?_⟩
  · have h := Lib.bytesWorld_cell w e s j hj
    rw [h, List.getD, hb]
    rfl
  · unfold World.frozen?
    rw [Lib.bytesWorld_at_new]
    have : j < (Lib.bytesCells w e s).size := by
      unfold Lib.bytesCells
      rw [Array.size_append, Array.size_map]
      exact Nat.lt_of_lt_of_le hj (Nat.le_add_right _ _)
    simp
    omega
theorem ByteC.set {w : World} {g : Nat} {l : Bs} (h : ByteC w g l) (i : Nat) (c : UInt8) : ByteC (w.setCell ⟨g, i, none⟩ (.int .u8 (c.toNat : Int))) g (l.set i c) := fun j b hb => by
  rw [World.frozen?_setCell]
  rw [List.getElem?_set] at hb
  split at hb
  · rename_i hij
    subst hij
    split at hb
    · rename_i hl
      cases hb
      obtain ⟨h1, h2⟩ := h i _ (List.getElem?_eq_getElem hl)
      exact ⟨World.cell?_setCell_same _ _ _ h1, h2⟩
    · cases hb
  · rename_i hij
    obtain ⟨h1, h2⟩ := h j b hb
    exact ⟨(World.cell?_setCell_other _ _ _ _ (fun e => hij (by cases e; rfl))).trans h1, h2⟩
theorem ByteC.later {w w' : World} {g : Nat} {l : Bs} (h : ByteC w g l) (hg : g < w.heap.size) (hb : Below w.heap.size w w') : ByteC w' g l := fun j b hj =>
  ⟨(hb.cell (p := ⟨g, _, none⟩) hg).trans (h j b hj).1, (hb.frozen (p := ⟨g, _, none⟩) hg).trans (h j b hj).2⟩
def mixed (l : Bs) (i : Nat) : Bs := (l.take i).map upper ++ l.drop i
theorem mixed_zero (l : Bs) : mixed l 0 = l := rfl
theorem mixed_all (l : Bs) : mixed l l.length = l.map upper := by unfold mixed; rw [List.take_length, List.drop_length, List.append_nil]
theorem mixed_at {l : Bs} {i : Nat} {b : UInt8} (h : l[i]? = some b) : (mixed l i)[i]? = some b := by
  have hl := (List.getElem?_eq_some_iff.1 h).1
  unfold mixed
  rw [List.getElem?_append_right (by rw [List.length_map, List.length_take]; omega), List.length_map, List.length_take, List.getElem?_drop, show i + (i - min i l.length) = i by omega, h]
theorem mixed_step {l : Bs} {i : Nat} {b : UInt8} (h : l[i]? = some b) : mixed l (i + 1) = (mixed l i).set i (upper b) := by
  obtain ⟨hl, hb⟩ := List.getElem?_eq_some_iff.1 h
  unfold mixed
  rw [List.take_add_one, h, List.set_append_right _ _ (by rw [List.length_map, List.length_take]; omega), List.length_map, List.length_take, show i - min i l.length = 0 by omega, List.drop_eq_getElem_cons hl, List.set_cons_zero]
  simp
theorem upper_num (b : UInt8) : (97 ≤ b.toNat ∧ b.toNat ≤ 122 → (upper b).toNat = b.toNat - 32) ∧ (¬ (97 ≤ b.toNat ∧ b.toNat ≤ 122) → upper b = b) :=
  all_bytes (P := fun b => (97 ≤ b.toNat ∧ b.toNat ≤ 122 → (upper b).toNat = b.toNat - 32) ∧ (¬ (97 ≤ b.toNat ∧ b.toNat ≤ 122) → upper b = b)) (by decide) b
theorem mixed_same {l : Bs} {i : Nat} {b : UInt8} (h : l[i]? = some b) (hb : upper b = b) : mixed l (i + 1) = mixed l i := by
  rw [mixed_step h, hb]
  exact List.ext_getElem? fun j => by
    rw [List.getElem?_set]
    split
    · rename_i e
      subst e
      have := mixed_at h
      rw [this]
      split
      · rfl
      · rename_i hh
        rw [(List.getElem?_eq_none (by omega))] at this
        cases this
    · rfl
theorem lexS_upper {l : Bs} (h : (39 : UInt8) ∉ l) : lexS (l.map upper) = lexS l := by unfold lexS; rw [List.length_map, lexL_upper l h]

set_option maxHeartbeats 4000000 in
theorem case_walk (C : LexC) (s : ByteArray) (w : World) (hG : GV w) (hs : s.size ≤ 9223372036854775807) :
    Calls Tryd.prog 8 #[.string s] w fun e w' => e = .returned (.bool true) ∧ Below w.heap.size w w' := by
  have hsl : s.data.toList.length = s.size := Array.length_toList
  have kc := fun (w : World) => Lib.run_convert_string_bytes (P := Tryd.prog) w 9 36 5 s Tryd.underlying9 Tryd.underlying36 Tryd.underlying5
  go_enter Tryd.func8, Tryd.ntmps8
  go_wp2_with fail
  refine (ex7_any C _ hG).mono ?_
  rintro e w1 ⟨rfl, hb1⟩
  have hs1 := hb1.size
  have B1 := Lib.hid hb1
  clear hb1
  go_wp2_with fail
  have hsz := Lib.bytesWorld_size w1 5 s
  have hbc := byteC_new w1 5 s
  have hbb := Lib.bytesWorld_below w1 5 s
  obtain ⟨cap, hcap⟩ : ∃ cap, cap = grownCap w1 s.size 0 5 := ⟨_, rfl⟩
  obtain ⟨V, hV⟩ : ∃ V, V = Lib.bytesWorld w1 5 s := ⟨_, rfl⟩
  rw [← hV] at hsz hbc hbb
  rw [← hV, ← hcap]
  have HBC := Lib.hid hbc
  have HBB := Lib.hid hbb
  clear hV hcap kc hbc hbb
  obtain ⟨g, hg⟩ : ∃ g, g = w1.heap.size := ⟨_, rfl⟩
  have HG := Lib.hid hg
  rw [← hg] at hsz HBC HBB
  rw [← hg]
  clear hg
  go_loopw [5] (fun vi wr => ∃ i : Nat, vi = .int .i64 i ∧ i ≤ s.size ∧ Hid (ByteC wr g (mixed s.data.toList i) ∧ (39 : UInt8) ∉ s.data.toList.take i ∧ Below g w1 wr ∧ g < wr.heap.size)) (fun vi _ => s.size - (intOf vi).toNat)
  case atStart => exact ⟨0, rfl, Nat.zero_le _, HBC.out, by simp, HBB.out, by omega⟩
  case round =>
    obtain ⟨i, rfl, hi, HH⟩ := hrel
    obtain ⟨W, hW⟩ : ∃ W, W = wr := ⟨_, rfl⟩
    subst hW
    by_cases hlt : i < s.size
    · obtain ⟨b, hb⟩ : ∃ b, s.data.toList[i]? = some b := ⟨_, List.getElem?_eq_getElem (by rw [hsl]; exact hlt)⟩
      obtain ⟨c0, f0⟩ := HH.out.1 i b (mixed_at hb)
      by_cases h39 : b = 39
      · have m1 : ((b.toNat : Int) == 39) = true := by rw [h39]; rfl
        have BE := Lib.hid (B1.out.trans (HH.out.2.2.1.mono (by rw [HG.out]; exact hs1)))
        clear HH hb
        go_wp2_with fail
        go_ret
        exact ⟨rfl, BE.out⟩
      · have m1 : ((b.toNat : Int) == 39) = false := by
          rw [beq_eq_false_iff_ne]
          intro h
          exact h39 (UInt8.toNat_inj.1 (by have : b.toNat = 39 := (by omega); rw [this]; rfl))
        have hn : (39 : UInt8) ∉ s.data.toList.take (i + 1) := by
          rw [List.take_add_one, hb]
          intro hm
          rcases List.mem_append.1 hm with hm | hm
          · exact HH.out.2.1 hm
          · simp at hm; exact h39 hm.symm
        have HN := Lib.hid hn
        have hb256 := b.toNat_lt
        by_cases hbig : 97 ≤ b.toNat ∧ b.toNat ≤ 122
        · obtain ⟨k1, k2⟩ := hbig
          have k3 : (b.toNat : Int) ≥ 97 := by omega
          have k4 : (b.toNat : Int) ≤ 122 := by omega
          have hu := (upper_num b).1 ⟨k1, k2⟩
          have hset := HH.out.1.set i (upper b)
          rw [← mixed_step hb, hu, show ((b.toNat - 32 : Nat) : Int) = (b.toNat : Int) - 32 by omega] at hset
          have HS := Lib.hid hset
          clear hset hu hn hb h39 HBC HBB
          go_wp2_with fail
          go_roundw
          case rel => exact ⟨i + 1, by go_num, hlt, HS.out, HN.out, HH.out.2.2.1.setCell (Nat.le_refl _) _, by rw [World.size_setCell]; exact HH.out.2.2.2⟩
          case measure => simp [intOf] <;> omega
        · have hsame := (upper_num b).2 hbig
          have hm := mixed_same hb hsame
          by_cases k1 : 97 ≤ b.toNat
          · have k3 : (b.toNat : Int) ≥ 97 := by omega
            have k4 : ¬ (b.toNat : Int) ≤ 122 := by omega
            have HM := Lib.hid hm
            clear hm hn hb h39 HBC HBB hsame hbig
            go_wp2_with fail
            go_roundw
            case rel => exact ⟨i + 1, by go_num, hlt, by rw [HM.out]; exact HH.out.1, HN.out, HH.out.2.2⟩
            case measure => simp [intOf] <;> omega
          · have k3 : ¬ (b.toNat : Int) ≥ 97 := by omega
            have HM := Lib.hid hm
            clear hm hn hb h39 HBC HBB hsame hbig
            go_wp2_with fail
            go_roundw
            case rel => exact ⟨i + 1, by go_num, hlt, by rw [HM.out]; exact HH.out.1, HN.out, HH.out.2.2⟩
            case measure => simp [intOf] <;> omega
    · obtain rfl : i = s.size := by omega
      obtain ⟨hbc, hno, hbl, hgl⟩ := HH.out
      rw [← hsl, mixed_all] at hbc
      rw [← hsl, List.take_length] at hno
      clear HH HBC HBB
      obtain ⟨r, hr⟩ : ∃ r, r = lexS s.data.toList := ⟨_, rfl⟩
      have hr2 : lexS (bsB (s.data.toList.map upper)).data.toList = r := by rw [hr]; exact lexS_upper hno
      have hsz2 : (bsB (s.data.toList.map upper)).size = s.size := by rw [bsB_len, List.length_map, hsl]
      have CA := Lib.hid (lex_res C s W (hG.on (B1.out.trans (hbl.mono (by rw [HG.out]; exact hs1)))) hs r hr.symm)
      clear hr
      have B2 := Lib.hid (B1.out.trans (hbl.mono (by rw [HG.out]; exact hs1)))
      have hs2 := B2.out.size
      have HBC := Lib.hid hbc
      have HR2 := Lib.hid hr2
      clear hbc hno hbl hr2
      go_wp2_with fail
      refine (CA.out).mono ?_
      rintro e w3 ⟨⟨q3, c3, rfl, k400, arA⟩, hb3⟩
      have hbc3 := HBC.out.later hgl hb3
      obtain ⟨S, hS⟩ : ∃ S, S = bsB (s.data.toList.map upper) := ⟨_, rfl⟩
      have kb : (convert 36 9 (.slice (some ⟨g, 0, none⟩) s.size cap)).run Tryd.prog w3 = .ok (.string S) w3 := by
        have h := run_convert_bytes_back w3 36 9 5 ⟨g, 0, none⟩ cap (s.data.toList.map upper) Tryd.underlying36 Tryd.underlying5 Tryd.underlying9 (fun j hj => by
          have ha : (Addr.mk g 0 none).add j = ⟨g, j, none⟩ := by
            unfold Addr.add
            split
            · rename_i h0; rw [h0]
            · simp
          rw [ha]
          have := (hbc3 j _ (List.getElem?_eq_getElem hj)).1
          simpa using this)
        rw [List.length_map, hsl] at h
        rw [hS]
        exact h
      have hr2 : lexS S.data.toList = r := by rw [hS]; exact HR2.out
      rw [← hS] at hsz2
      have B3 := Lib.hid (B2.out.trans (hb3.mono hs2))
      have hs3 := B3.out.size
      have CB := Lib.hid (lex_res C S w3 (hG.on B3.out) (by omega) r hr2)
      have AA := Lib.hid arA
      clear hS hr2 hbc3 hb3 CA HR2 HBC arA
      obtain ⟨n, hn⟩ : ∃ n, n = r.list.length := ⟨_, rfl⟩
      have HNN := Lib.hid hn
      rw [← hn] at k400
      rw [← hn] at CB
      rw [← hn]
      clear hn
      go_wp2_with fail
      refine (CB.out).mono ?_
      rintro e w4 ⟨⟨q4, c4, rfl, -, arB⟩, hb4⟩
      have AB := Lib.hid arB
      have B4 := Lib.hid (B3.out.trans (hb4.mono hs3))
      have hs4 := B4.out.size
      have B34 := Lib.hid hb4
      clear hb4 CB arB kb
      go_wp2_with fail
      go_loopw [12] (fun vi wr => ∃ i : Nat, vi = .int .i64 i ∧ i ≤ n ∧ Hid (Below w4.heap.size w4 wr)) (fun vi _ => n - (intOf vi).toNat)
      case atStart => exact ⟨0, rfl, Nat.zero_le _, Below.refl _ _⟩
      case round =>
        obtain ⟨i, rfl, hi, HW⟩ := hrel
        obtain ⟨X, hX⟩ : ∃ X, X = wr := ⟨_, rfl⟩
        subst hX
        by_cases hlt : i < n
        · have hlt2 : i < r.list.length := by rw [← HNN.out]; exact hlt
          obtain ⟨u, hu⟩ : ∃ u, r.list[i]? = some u := ⟨_, List.getElem?_eq_getElem hlt2⟩
          obtain ⟨ga, offa, rfl, -, hga, hcA⟩ := AA.out i hlt2
          obtain ⟨gb, offb, rfl, -, hgb, hcB⟩ := AB.out i hlt2
          have BX := Lib.hid (B34.out.trans (HW.out.mono B34.out.size))
          have x := hcA i u hu
          have y := hcB i u hu
          have x0 := (BX.out.cell (p := ⟨ga, _, none⟩) hga).trans x.c0
          have x1 := (BX.out.cell (p := ⟨ga, _, none⟩) hga).trans x.c1
          have x2 := (BX.out.cell (p := ⟨ga, _, none⟩) hga).trans x.c2
          have x3 := (BX.out.cell (p := ⟨ga, _, none⟩) hga).trans x.c3
          have y0 := (HW.out.cell (p := ⟨gb, _, none⟩) hgb).trans y.c0
          have y1 := (HW.out.cell (p := ⟨gb, _, none⟩) hgb).trans y.c1
          have y2 := (HW.out.cell (p := ⟨gb, _, none⟩) hgb).trans y.c2
          have y3 := (HW.out.cell (p := ⟨gb, _, none⟩) hgb).trans y.c3
          have HEQ := Lib.hid (Tryd.sameTok u.kd u.n u.at_ (bsB u.s))
          have hgt := Lib.hid Tryd.tokGuard
          clear x y hcA hcB hu hlt2 BX
          go_wp2_with fail
          refine wp_region_quiet_lit (by kernel_rfl) (by kernel_rfl) ?_
          iterate 8 (go_big_quiet_step (fail))
          go_big_quiet_want
          refine quiet_neq _ _ 32 _ rfl _ _ _ rfl rfl hgt.out HEQ.out ?_
          go_simp
          go_big_quiet_on
          repeat (go_big_quiet_step (fail))
          refine wpQuiet_nil ?_
          intro _ hw'
          obtain ⟨nr, hw''⟩ := hw'
          subst hw''
          clear x0 x1 x2 x3 y0 y1 y2 y3
          go_wp2_with fail
          go_roundw
          case rel => exact ⟨i + 1, by go_num, hlt, HW.out.trans ((ext_drewN (ext_refl _) nr).mono HW.out.size)⟩
          case measure => simp [intOf] <;> omega
        · obtain rfl : i = n := by omega
          have BE := Lib.hid (B4.out.trans (HW.out.mono hs4))
          clear HNN
          go_wp2_with fail
          go_ret
          exact ⟨rfl, BE.out⟩

/- FRAME -/

set_option maxRecDepth 100000 in
theorem lexCase_lifted (C : LexC) (os : Os) (started : os.Started) (H : Type) (enc : TypeId × Value → H) :
    ReturnsInHanded {} Tryd.checked os 8 .any (fun w args => (Rows.lexCaseSpec.pre enc Tryd.prog Tryd.f8 Rows.lexCaseRow.domain false w args ∧ laidMetH Tryd.prog laidVars w) ∧ sizedMet enc Tryd.prog Tryd.f8 (OpenSpec.ofChange Rows.lexCaseSpec) false w args) (Rows.lexCaseSpec.post enc Tryd.prog Tryd.f8 false true false false) := by
  refine returnsInHanded_of_change_and (C := Tryd.checked) (X := fun w _ => laidMetH Tryd.prog laidVars w) (fun _ _ _ hh h => h.of_heap hh) Tryd.own started (by kernel_rfl) Tryd.func8
    (ChangeSpec.witness_shaped (enc := enc) (C := Tryd.checked) (os := os) (X := fun w _ => laidMetH Tryd.prog laidVars w) false (World.laidAll Tryd.prog os laidVars) #[.string ⟨#[]⟩] 8 (World.laidAll_os _ _ _)
      (wit_shaped os _) (by kernel_rfl) (by kernel_rfl) (by kernel_rfl) (wit_met os _)) ?_
  intro W base args ds gs before hval0 hW _ hsz hL _
  have hval : ∀ (j : Nat) t v, Tryd.f8.params[j]? = some t → args[j]? = some v → Value.okWide Tryd.prog W .any base t v := hval0
  have hW' := hW
  obtain ⟨p, q, hA0, hV, rfl, _, _⟩ := hW
  have hA : DataW.TrodAll enc Tryd.prog W 0 (fun _ => true) true Tryd.f8.params.toList args.toList ds p := hA0
  rw [Tryd.params8] at hA hval hsz
  obtain ⟨v0, d0, rfl, rfl, h0⟩ := trodAll_one hA
  obtain ⟨s0, rfl, zs0⟩ := open_word6 (hval 0 9 v0 rfl rfl) h0 (fun n hn => of_decide_eq_true (List.all_eq_true.1 hsz _ (DataW.weights_mem_each (j := 0) (t := 9) rfl rfl n hn)))
  have hG := GV.of_laid hL
  clear hA0 hval0 hL
  refine (case_walk C s0 W hG (by unfold reachBytes at zs0; omega)).mono fun e W' ⟨he, hb⟩ => ⟨_, he, post_law rfl hW' rfl rfl ?_ hb⟩
  intro t ht
  rw [Tryd.params8] at ht
  simp only [List.mem_cons, List.not_mem_nil, or_false] at ht
  subst ht <;> exact ⟨by kernel_rfl, of_decide_eq_true (by kernel_rfl)⟩

theorem lexCase_holds (C : LexC) : Rows.LexCaseSaid :=
  OpenClaim.holds_of_wide 8 Tryd.f8 rfl rfl rfl rfl rfl rfl rfl ⟨rfl, rfl, rfl, rfl, rfl⟩ rfl rfl rfl rfl rfl (by kernel_rfl) Tryd.func8 (by kernel_rfl)
    (of_decide_eq_true (by kernel_rfl)) (by unfold Func.isWrapper; rw [if_neg (of_decide_eq_false (by kernel_rfl))]; exact ⟨rfl, rfl⟩)
    (fun os started H enc _ => lexCase_lifted C os started H enc)

set_option maxRecDepth 100000 in
theorem lexCase_card (C : LexC) : Rows.LexCaseCardSaid :=
  Claim7.holds_tied_plain_at .later [] Rows.lexCaseCard.laidKinds true Rows.lexCaseCard.stood.harness true (lexCase_holds C) (fun _ h => by cases h) (by kernel_rfl) (fun _ h => by cases h) lexCase_row_tie rfl ⟨rfl, rfl⟩ (by kernel_rfl) rfl
    (fun f fn hf hfn => by
      obtain rfl : f = 8 := Option.some.inj ((show Tryd.prog.funcNamed "weathercock/weathercocklaw07.LexCase" = some 8 by kernel_rfl).symm.trans hf) |>.symm
      obtain rfl : fn = Tryd.f8 := (Option.some.inj (Tryd.func8.symm.trans hfn)).symm
      exact ⟨by kernel_rfl, fun j t ht => by
        rw [Tryd.params8] at ht
        have hm : t ∈ [9] := by simpa using Array.mem_of_getElem? ht
        have hall : ([9].all fun u => !Tryd.prog.wantsStandIn u) = true := by kernel_rfl
        exact (show Tryd.prog.wantsStandIn t = false by simpa using List.all_eq_true.1 hall t hm)⟩)
    (by kernel_rfl)

#print axioms lexCase_card

end Go.Proofs.YtejfjlbnehdgnaaDoor
