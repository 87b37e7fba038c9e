/- A part of the proof. -/
import Derived.Test.YtklgoajgchfmeaaDoorKq
import Derived.Test.YtklgoajgchfmeaaDoorKh
import Derived.Test.YtklgoajgchfmeaaDoorKb
import Derived.Test.YtklgoajgchfmeaaDoorCards
import Derived.Test.YtklgoajgchfmeaaDoorTie
import Derived.Lay
import Derived.LaidMore
import Derived.OpenShut
import Derived.SevenTiedAt
import Derived.Stop.Joined
import Derived.SizedLaws
set_option linter.unusedVariables false
set_option linter.unusedSimpArgs false
namespace Go.Proofs.YtklgoajgchfmeaaDoor
open Go.RowKit Go.Maps Go.ChangeShapes Go.Deep Go.Shelf
set_option maxRecDepth 100000
abbrev cdX (o c a b : Int) : Ex := .mk (9 + o) zeroVal 0 0 0 ⟨#[]⟩ [rfX a c, rfX b 2]
theorem cd_facts : ∀ o < 6, ∀ c < 6, rightE (cdX (o : Nat) (c : Nat) 0 1) = true ∧ inSet 3 (cdX (o : Nat) (c : Nat) 0 1) = true ∧ rightE (cdX (o : Nat) (c : Nat) 1 3) = true ∧ inSet 10 (cdX (o : Nat) (c : Nat) 1 3) = true := by decide +kernel
theorem cd_rank (set : Nat) (o c a b : Int) (ho : 0 ≤ o) (x y : Nat) (hx : rkN set a.toNat = x) (hy : rkN set b.toNat = y) : (cdX o c a b).rank set = cdX o c x y := by
  rw [Ex.rank, rankL, rankL, rankL, Ex.rank, Ex.rank, rankL, if_neg (by omega), if_pos rfl, if_pos rfl, hx, hy]
theorem ranks_same (one two other o c : Int) (ho : 0 ≤ o ∧ o < 6) (hc : 0 ≤ c ∧ c < 6) :
    ofE [one, two] 2 [cdX o c 0 1] 3 = ofE [other, one, other, two] 4 [cdX o c 1 3] 10 ∧ (ofE [one, two] 2 [cdX o c 0 1] 3).2 = 0 ∧ (ofE [one, two] 2 [] 3).2 = 0 ∧ (ofE [one, two] 2 [cdX o c 0 1] 3).1.length ≠ (ofE [one, two] 2 [] 3).1.length := by
  obtain ⟨o', rfl⟩ : ∃ n : Nat, o = n := ⟨o.toNat, by omega⟩
  obtain ⟨c', rfl⟩ : ∃ n : Nat, c = n := ⟨c.toNat, by omega⟩
  obtain ⟨h1, h2, h3, h4⟩ := cd_facts o' (by omega) c' (by omega)
  have r1 : (cdX o' c' 0 1).rank 3 = cdX o' c' 0 1 := cd_rank 3 o' c' 0 1 (by omega) 0 1 (by decide) (by decide)
  have r2 : (cdX o' c' 1 3).rank 10 = cdX o' c' 0 1 := cd_rank 10 o' c' 1 3 (by omega) 0 1 (by decide) (by decide)
  have k1 : rankedE 3 [cdX o' c' 0 1] = [cdX o' c' 0 1] := by
    unfold rankedE
    rw [List.filter_cons, if_pos h2, List.filter_nil, List.map_cons, List.map_nil]
    exact congrArg (fun z => [z]) r1
  have k2 : rankedE 10 [cdX o' c' 1 3] = [cdX o' c' 0 1] := by
    unfold rankedE
    rw [List.filter_cons, if_pos h4, List.filter_nil, List.map_cons, List.map_nil]
    exact congrArg (fun z => [z]) r2
  have p1 : partE [one, two] 2 [cdX o' c' 0 1] 3 = true := by simp [partE, h1]
  have p2 : partE [other, one, other, two] 4 [cdX o' c' 1 3] 10 = true := by simp [partE, h3]
  have p3 : partE [one, two] 2 [] 3 = true := by simp [partE]
  have t1 : tabsT 3 0 [one, two] = Lib.itoa one ++ [32] ++ (Lib.itoa two ++ [32]) := by
    rw [tabsT, tabsT, tabsT, if_pos (by decide), if_pos (by decide), List.append_nil]
  have t2 : tabsT 10 0 [other, one, other, two] = Lib.itoa one ++ [32] ++ (Lib.itoa two ++ [32]) := by
    rw [tabsT, tabsT, tabsT, tabsT, tabsT, if_neg (by decide), if_pos (by decide), if_neg (by decide), if_pos (by decide), List.append_nil]; rfl
  unfold ofE
  rw [if_pos p1, if_pos p2, if_pos p3, k1, k2]
  refine ⟨?_, rfl, rfl, ?_⟩
  · show (83 :: (tabsT 3 0 [one, two] ++ _), (0 : Int)) = (83 :: (tabsT 10 0 [other, one, other, two] ++ _), 0)
    rw [t1, t2]
  · show (83 :: (tabsT 3 0 [one, two] ++ textsT (sortE ([cdX o' c' 0 1].map Ex.norm)))).length ≠ (83 :: (tabsT 3 0 [one, two] ++ textsT (sortE (([] : List Ex).map Ex.norm)))).length
    show (83 :: (tabsT 3 0 [one, two] ++ ((cdX o' c' 0 1).norm.print ++ (59 :: [])))).length ≠ (83 :: (tabsT 3 0 [one, two] ++ [])).length
    simp
theorem KB.ints {W : World} {g : Nat} {l : List Int} (h : KB W g (l.map (Value.int .i64))) : IntsA W 0 W.heap.size (some ⟨g, 0, none⟩) l := fun i hi => ⟨g, 0, rfl, Nat.zero_le _, h.lt, fun j x hx => by
  show World.cell? _ ⟨g, 0 + j * 1, none⟩ = some (.int .i64 x)
  rw [Nat.zero_add, Nat.mul_one]
  exact h.c j _ (by rw [List.getElem?_map, hx]; rfl)⟩
theorem KB.one {W : World} {g : Nat} {x : Ex} {cs : List Value} (h : KB W g cs) (hx : ExM W x cs) : ExL W (some ⟨g, 0, none⟩) 0 [x] :=
  ExLP.toL _ _ _ (ExLP.one (P := fun _ => True) (ExMP.on (Nat.le_refl _) (fun _ _ _ => rfl) (fun _ _ _ => trivial) _ _ (ExM.toP _ _ hx)) h.lt trivial h.c)
theorem KB.cond {W : World} {g : Nat} {a b : Int} {o c : Int} (h : KB W g (exCells 2 zeroVal a c 0 ⟨#[]⟩ none 0 0 ++ exCells 2 zeroVal b 2 0 ⟨#[]⟩ none 0 0)) : ExM W (cdX o c a b) (exCells (9 + o) zeroVal 0 0 0 ⟨#[]⟩ (some ⟨g, 0, none⟩) 2 2) :=
  ExM.iff.2 ⟨⟨by decide, by decide, by decide⟩, _, 2, rfl, Nat.le_refl _, ExLP.toL _ _ _ (ExLP.two (P := fun _ => True) (rfX_in W _ a c) (rfX_in W _ b 2) h.lt trivial h.c)⟩
theorem dof_cells {W : World} {gt : Nat} {qc : Option Addr} {nc : Nat} {tabs : List Int} {L : List Ex} (core set : Int) (nt : Nat) (hG : GE W) (ht : IntsA W 0 W.heap.size (some ⟨gt, 0, none⟩) tabs) (hc : ExL W qc 0 L) (hn : nt = tabs.length) (hl : nc = L.length) (h1 : tabs.length ≤ 1048576) (h2 : L.length ≤ 1048576) (hs : inR set = true) (hci : inR core = true) (hti : ∀ t ∈ tabs, inR t = true) :
    Calls Tryd.prog 18 #[.agg #[.slice (some ⟨gt, 0, none⟩) nt nt, .int .i64 core, .slice none 0 0, .slice none 0 0, .slice qc nc nc, .slice none 0 0, .slice none 0 0, .bool false, .slice none 0 0, .slice none 0 0, .bool false], .int .i64 set] W fun e w' => e = .returned (.tuple #[.string (bsB (ofE tabs core L set).1), .int .i64 (ofE tabs core L set).2]) ∧ Below W.heap.size W w' := by
  obtain ⟨r, hr⟩ : ∃ r : RawK, r = ⟨⟨some ⟨gt, 0, none⟩, nt, nt⟩, core, ⟨none, 0, 0⟩, ⟨none, 0, 0⟩, ⟨qc, nc, nc⟩, ⟨none, 0, 0⟩, ⟨none, 0, 0⟩, false, ⟨none, 0, 0⟩, ⟨none, 0, 0⟩, false⟩ := ⟨_, rfl⟩
  have BI : BlkIn W r tabs L := by
    subst hr
    exact ⟨hn, ⟨Nat.le_refl _, by show nt ≤ _; omega⟩, ht, hl, ⟨Nat.le_refl _, by show nc ≤ _; omega⟩, hc, by omega⟩
  have hc : r.core = core := by rw [hr]
  have h := dof_any r tabs L set W BI hG hs (by rw [hc]; exact hci) h2 hti
  rw [hc] at h
  rw [hr] at h
  exact h
theorem neg_idx {x : Int} (h : inR x = true) (hx : x < 0) : ∃ o : Int, (0 ≤ o ∧ o < 6) ∧ wrap64 (9 + (wrap64 (-wrap64 (x + 1))).tmod 6) = 9 + o ∧ (wrap64 (-wrap64 (x + 1))).tmod 6 = o := by
  have h1 := inR_iff.1 h
  have e1 : wrap64 (x + 1) = x + 1 := by unfold wrap64; omega
  have e2 : wrap64 (-(x + 1)) = -(x + 1) := by unfold wrap64; omega
  have e3 : (-(x + 1)).tmod 6 = (-(x + 1)) % 6 := Int.tmod_eq_emod_of_nonneg (by omega)
  rw [e1, e2, e3]
  exact ⟨_, ⟨by omega, by omega⟩, by unfold wrap64; omega, rfl⟩
theorem pos_idx {x : Int} (hx : 0 ≤ x) : ∃ o : Int, (0 ≤ o ∧ o < 6) ∧ x % 6 = o := ⟨_, ⟨by omega, by omega⟩, rfl⟩
theorem bs_len {l m : Bs} (h : l.length ≠ m.length) : ¬ (bsB l).toList = (bsB m).toList := fun e => h (by
  rw [ByteArray.toList_eq, ByteArray.toList_eq] at e
  have e : l = m := e
  rw [e])
theorem new_block (W : World) (cs : List Value) (T : TypeId) (g : Nat) (hg : g = W.heap.size) : ∃ W', W.alloc (.cells cs.toArray T) = W' ∧ KB W' g cs ∧ Below W.heap.size W W' ∧ g + 1 = W'.heap.size := by
  subst hg
  exact ⟨_, rfl, KB.new W cs T, ext_alloc (ext_refl _) _, (World.size_alloc _ _).symm⟩
theorem calls_world {f : Nat} {a : Array Value} {W W' : World} {Q : Ending → World → Prop} (h : Calls Tryd.prog f a W' Q) (e : W = W') : Calls Tryd.prog f a W Q := e ▸ h
set_option maxHeartbeats 8000000 in
theorem signRanks_any (one two other col op : Int) (h1 : inR one = true) (h2 : inR two = true) (h3 : inR other = true) (h4 : inR col = true) (h5 : inR op = true) (w : World) (hG : GE w) :
    Calls Tryd.prog 7 #[.int .i64 one, .int .i64 two, .int .i64 other, .int .i64 col, .int .i64 op] w fun e w' => e = .returned (.bool true) ∧ Below w.heap.size w w' := by
  have HG := Lib.hid hG
  go_enter Tryd.func7, Tryd.ntmps7
  go_wp2_with fail
  refine (examples12_any w HG.out).mono ?_
  rintro e Y ⟨rfl, hb1⟩
  have HB1 := Lib.hid hb1
  clear hb1 hG
  go_wp2_with fail
  all_goals
    first
      | obtain ⟨o, ho, he1, he2⟩ := neg_idx h5 (by assumption)
        rw [he1]
      | obtain ⟨o, ho, he2⟩ := pos_idx (x := op) (by assumption)
        rw [he2]
    first
      | obtain ⟨c, hc, -, he3⟩ := neg_idx h4 (by assumption)
        rw [he3]
      | obtain ⟨c, hc, he3⟩ := pos_idx (x := col) (by assumption)
        rw [he3]
    clear he2 he3
    obtain ⟨W1, e1, K1, b1, s1⟩ := new_block Y (exCells 2 zeroVal 0 c 0 ⟨#[]⟩ none 0 0 ++ exCells 2 zeroVal 1 2 0 ⟨#[]⟩ none 0 0) 26 _ rfl
    obtain ⟨W2, e2, K2, b2, s2⟩ := new_block W1 (exCells (9 + o) zeroVal 0 0 0 ⟨#[]⟩ (some ⟨Y.heap.size, 0, none⟩) 2 2) 26 _ s1
    obtain ⟨W3, e3, K3, b3, s3⟩ := new_block W2 (exCells 2 zeroVal 1 c 0 ⟨#[]⟩ none 0 0 ++ exCells 2 zeroVal 3 2 0 ⟨#[]⟩ none 0 0) 26 _ s2
    obtain ⟨W4, e4, K4, b4, s4⟩ := new_block W3 (exCells (9 + o) zeroVal 0 0 0 ⟨#[]⟩ (some ⟨Y.heap.size + 1 + 1, 0, none⟩) 2 2) 26 _ s3
    obtain ⟨W5, e5, K5, b5, s5⟩ := new_block W4 ([one, two].map (Value.int .i64)) 3 _ s4
    obtain ⟨W6, e6, K6, b6, s6⟩ := new_block W5 (exCells (9 + o) zeroVal 0 0 0 ⟨#[]⟩ (some ⟨Y.heap.size, 0, none⟩) 2 2) 26 _ s5
    refine calls_world (W' := W6) ?_ (by rw [← e6, ← e5, ← e4, ← e3, ← e2, ← e1]; rfl)
    have B6 : Below Y.heap.size Y W6 := b1.trans ((b2.trans ((b3.trans ((b4.trans ((b5.trans (b6.mono b5.size)).mono b4.size)).mono b3.size)).mono b2.size)).mono b1.size)
    clear e1 e2 e3 e4 e5 e6
    have K1 := K1.on (b2.trans ((b3.trans ((b4.trans ((b5.trans (b6.mono b5.size)).mono b4.size)).mono b3.size)).mono b2.size))
    have K2 := K2.on (b3.trans ((b4.trans ((b5.trans (b6.mono b5.size)).mono b4.size)).mono b3.size))
    have K3 := K3.on (b4.trans ((b5.trans (b6.mono b5.size)).mono b4.size))
    have K4 := K4.on (b5.trans (b6.mono b5.size))
    have K5 := K5.on b6
    clear b1 b2 b3 b4 b5 b6 s1 s2 s3 s4 s5
    obtain ⟨q1, q2, q3, q4⟩ := ranks_same one two other o c ho hc
    have P1 := Lib.hid q1
    have P2 := Lib.hid q2
    have P3 := Lib.hid q3
    have P4 := Lib.hid q4
    clear q1 q2 q3 q4
    have hti : ∀ t ∈ [one, two], inR t = true := fun t ht => by
      rcases List.mem_cons.1 ht with rfl | ht
      · exact h1
      · rw [List.mem_singleton.1 ht]; exact h2
    have HY := Lib.hid (HB1.out.trans (B6.mono HB1.out.size))
    refine Calls.mono (dof_cells (tabs := [one, two]) (L := [cdX o c 0 1]) 2 3 2 (HG.out.on HY.out) K5.ints (K6.one K1.cond) rfl rfl (by simp) (by simp) (by decide) (by decide) hti) ?_
    rintro e Z ⟨rfl, hz⟩
    rw [P2.out]
    have K2 := K2.on hz
    have K3 := K3.on hz
    have K4 := K4.on hz
    have HZ := Lib.hid (HY.out.trans (hz.mono HY.out.size))
    have ltD := K4.lt
    have d0 := K4.c 0 _ rfl
    have d1 := K4.c 1 _ rfl
    have d2 := K4.c 2 _ rfl
    have d3 := K4.c 3 _ rfl
    have d4 := K4.c 4 _ rfl
    have d5 := K4.c 5 _ rfl
    have d6 := K4.c 6 _ rfl
    have d7 := K4.c 7 _ rfl
    have d8 := K4.c 8 _ rfl
    clear hz B6 K5 K6 K1 HY K2 K4
    go_wp2_with fail
    clear d0 d1 d2 d3 d4 d5 d6 d7 d8 ltD
    obtain ⟨V1, e1, J1, b1, s1⟩ := new_block Z ([other, one, other, two].map (Value.int .i64)) 3 _ rfl
    obtain ⟨V2, e2, J2, b2, s2⟩ := new_block V1 (exCells (9 + o) zeroVal 0 0 0 ⟨#[]⟩ (some ⟨Y.heap.size + 1 + 1, 0, none⟩) 2 2) 26 _ s1
    refine calls_world (W' := V2) ?_ (by rw [← e2, ← e1]; rfl)
    have B2 := b1.trans (b2.mono b1.size)
    have K3 := K3.on B2
    have J1 := J1.on b2
    clear e1 e2 s1 s2
    have htj : ∀ t ∈ [other, one, other, two], inR t = true := fun t ht => by
      rcases List.mem_cons.1 ht with rfl | ht
      · exact h3
      · rcases List.mem_cons.1 ht with rfl | ht
        · exact h1
        · rcases List.mem_cons.1 ht with rfl | ht
          · exact h3
          · rw [List.mem_singleton.1 ht]; exact h2
    have HV := Lib.hid (HZ.out.trans (B2.mono HZ.out.size))
    refine Calls.mono (dof_cells (tabs := [other, one, other, two]) (L := [cdX o c 1 3]) 4 10 4 (HG.out.on HV.out) J1.ints (J2.one K3.cond) rfl rfl (by simp) (by simp) (by decide) (by decide) htj) ?_
    rintro e U ⟨rfl, hu⟩
    rw [← P1.out, P2.out]
    have HU := Lib.hid (HV.out.trans (hu.mono HV.out.size))
    clear hu HV B2 b1 b2 J1 J2 K3 htj HZ
    go_wp2_with fail
    obtain ⟨V1, e1, J1, b1, s1⟩ := new_block U ([one, two].map (Value.int .i64)) 3 _ rfl
    refine calls_world (W' := V1) ?_ (by rw [← e1]; rfl)
    have HV := Lib.hid (HU.out.trans (b1.mono HU.out.size))
    refine Calls.mono (dof_cells (qc := none) (nc := 0) (tabs := [one, two]) (L := []) 2 3 2 (HG.out.on HV.out) J1.ints (by rw [ExL]; trivial) rfl rfl (by simp) (by simp) (by decide) (by decide) hti) ?_
    rintro e R ⟨rfl, hr⟩
    rw [P3.out]
    have HR := Lib.hid (HV.out.trans (hr.mono HV.out.size))
    have hne := bs_len P4.out
    obtain ⟨SA, hsa⟩ : ∃ a, a = bsB (ofE [one, two] 2 [cdX o c 0 1] 3).1 := ⟨_, rfl⟩
    obtain ⟨SB, hsb⟩ : ∃ a, a = bsB (ofE [one, two] 2 [] 3).1 := ⟨_, rfl⟩
    rw [← hsa, ← hsb] at hne
    rw [← hsa, ← hsb]
    clear hsa hsb hr J1 b1 e1 s1 HV HU P1 P2 P3 P4 hti
    go_wp2_with fail
    refine bodyPost_ret (v := .bool true) (by simp [results, Tryd.results7, go_sem, hne]) rfl ⟨rfl, HR.out⟩
open Go.ChangeShapes Go.WideShapes Go.ChangeAt Go.RowKit Go.Joins
set_option maxRecDepth 100000
noncomputable abbrev laidVars : List (String × DataW Unit) := Rows.signTellsRow.laid
theorem wit_shaped (os : Os) (args : Array Value) : ((World.laidAll Tryd.prog os laidVars).forCall (fun _ _ => 0) ⟨#[], args, []⟩).Shaped Tryd.prog := World.shaped_of_ZipB (by kernel_rfl) (by kernel_rfl)
theorem wit_met (os : Os) (args : Array Value) : laidMetH Tryd.prog laidVars ((World.laidAll Tryd.prog os laidVars).forCall (fun _ _ => 0) ⟨#[], args, []⟩).memory := by
  rw [MakeChecks.laidMetH_plain _ _ _ (by kernel_rfl)]
  exact laidMet_laidAll _ (by kernel_rfl) (by kernel_rfl)
theorem var_lt {W : World} {n : String} {d : DataW Unit} {g : Nat} (h : Lib.VarReads Tryd.prog W n d) (hg : Tryd.prog.globalNamed n = some g) : g < W.heap.size := by
  obtain ⟨g', t, cs, fuel, p, hg', ht, hv, hd⟩ := h
  obtain rfl := Option.some.inj (hg.symm.trans hg')
  unfold World.var? at hv
  simp only [hg, Option.bind_some] at hv
  rcases Nat.lt_or_ge g W.heap.size with h | h
  · exact h
  · simp [Array.getElem?_eq_none h] at hv
theorem GE.of_laid {W : World} (hL : laidMetH Tryd.prog laidVars W) : GE W := by
  rw [MakeChecks.laidMetH_plain _ _ _ (by kernel_rfl)] at hL
  have h1 : Lib.VarReads Tryd.prog W "math/bits.deBruijn64tab" Rows.laid_math_bits_deBruijn64tab := Lib.laidMet.reads hL (List.mem_of_getElem? (i := 1) rfl)
  have hlt := var_lt h1 (g := 3) (by kernel_rfl)
  exact GE.of_reads (by omega) (Lib.laidMet.reads hL (List.mem_of_getElem? (i := 3) rfl)) (Lib.laidMet.reads hL (List.mem_of_getElem? (i := 2) rfl))
open Go.ChangeShapes Go.WideShapes Go.ChangeAt Go.RowKit Go.Joins Go.Deep
set_option maxRecDepth 100000
theorem ExL.of {w : World} {q : Option Addr} : ∀ {l : List Ex} {i : Nat}, (∀ (j : Nat) (x : Ex), l[j]? = some x → ∃ g off cs, q = some ⟨g, off, none⟩ ∧ g < w.heap.size ∧ ExM w x cs ∧ ∀ (k : Nat) u, cs[k]? = some u → w.cell? ⟨g, off + (i + j) * 9 + k, none⟩ = some u) → ExL w q i l
  | [], i, _ => by rw [ExL]; trivial
  | x :: r, i, h => by
    rw [ExL]
    refine ⟨?_, ExL.of fun j y hy => ?_⟩
    · obtain ⟨g, off, cs, h1, h2, h3, h4⟩ := h 0 x rfl
      exact ⟨g, off, cs, h1, h2, h3, fun k u hu => h4 k u hu⟩
    · obtain ⟨g, off, cs, h1, h2, h3, h4⟩ := h (j + 1) y (by simpa using hy)
      refine ⟨g, off, cs, h1, h2, h3, fun k u hu => ?_⟩
      rw [show i + 1 + j = i + (j + 1) by omega]
      exact h4 k u hu
instance : Inhabited Ex := ⟨.mk 0 zeroVal 0 0 0 ⟨#[]⟩ []⟩
theorem Tryd.cellsExpr : Tryd.prog.cellsOf 26 = 9 := by kernel_rfl
section
variable {H : Type} {enc : TypeId × Value → H}
theorem size_in {l m : List (DataW H)} {d : DataW H} (h : d ∈ l) : SizeOf.sizeOf d < SizeOf.sizeOf (DataW.slice l m) := by
  have := List.sizeOf_lt_of_mem h
  simp only [DataW.slice.sizeOf_spec]
  omega
theorem size_agg {l : List (DataW H)} {d : DataW H} (h : d ∈ l) : SizeOf.sizeOf d < SizeOf.sizeOf (DataW.agg l) := by
  have := List.sizeOf_lt_of_mem h
  simp only [DataW.agg.sizeOf_spec]
  omega
theorem open_expr : ∀ (N : Nat) {W : World} {base n : Nat} {spare : Nat → Bool} {held : Bool} {cs : List Value} {y : DataW H × List MemPlace}, SizeOf.sizeOf y.1 < N → DataW.trod enc Tryd.prog W base spare held n 26 cs = some y → ∃ x : Ex, ExM W x cs ∧ cs.length = 9
  | 0, _, _, _, _, _, _, _, h, _ => absurd h (by omega)
  | N + 1, W, base, n, spare, held, cs, y, hN, h => by
    obtain ⟨xs, n', _, rfl, hl, hlen, hf⟩ := DataW.trod_struct Tryd.underlying26 h
    rw [Tryd.cellsExpr] at hl
    match xs, hlen, cs, hl with
    | [y0, y1, y2, y3, y4, y5, y6], _, [v0, v1, v2, v3, v4, v5, v6, v7, v8], _ =>
      have h0 := hf 0 _ rfl
      have h1 := hf 1 _ rfl
      have h2 := hf 2 _ rfl
      have h3 := hf 3 _ rfl
      have h4 := hf 4 _ rfl
      have h5 := hf 5 _ rfl
      have h6 := hf 6 _ rfl
      clear hf h
      simp only [List.getElem?_cons_zero, List.getElem?_cons_succ] at h0 h1 h2 h3 h4 h5 h6
      obtain ⟨op, e0, _, _⟩ := DataW.trod_int Tryd.underlying3 h0
      obtain ⟨v, e1, r1, r2, r3⟩ := cells_val h1
      obtain ⟨rel, e2, _, _⟩ := DataW.trod_int Tryd.underlying3 h2
      obtain ⟨col, e3, _, _⟩ := DataW.trod_int Tryd.underlying3 h3
      obtain ⟨nn, e4, _, _⟩ := DataW.trod_int Tryd.underlying3 h4
      obtain ⟨s, e5, _, _⟩ := DataW.trod_string Tryd.underlying9 h5
      have hN6 : SizeOf.sizeOf y6.1 < N := by
        have h := size_agg (H := H) (l := [y0, y1, y2, y3, y4, y5, y6].map (·.1)) (d := y6.1) (by simp)
        have hN' : SizeOf.sizeOf (DataW.agg ([y0, y1, y2, y3, y4, y5, y6].map (·.1))) < N + 1 := hN
        omega
      clear hN
      simp [Tryd.cellsInt, Tryd.cellsStr, Tryd.cellsVal] at e0 e1 e2 e3 e4 e5
      obtain ⟨rfl, rfl, rfl⟩ := e1
      subst e0 e2 e3 e4 e5
      have hS : Tryd.prog.cellsOf 24 = 1 := by kernel_rfl
      rcases open_slice Tryd.underlying24 h6 with ⟨hc, _⟩ | ⟨a, len, cap, m, n2, D, Pl, hc, hb, hl2, hm, hmm, hx, hi⟩
      · simp [hS] at hc
        subst hc
        exact ⟨.mk op v rel col nn s [], ExM.iff.2 ⟨⟨r1, r2, r3⟩, none, 0, rfl, Nat.le_refl _, by rw [ExL]; trivial⟩, rfl⟩
      · simp [hS] at hc
        subst hc
        have hlm : len ≤ m := by rw [hmm]; split <;> omega
        rw [Tryd.cellsExpr] at hi
        have each : ∀ i, i < len → ∃ x : Ex, ∃ cs', (∀ k, k < 9 → W.cell? (a.add (i * 9 + k)) = cs'[k]?) ∧ cs'.length = 9 ∧ ExM W x cs' := by
          intro i hil
          obtain ⟨cs', hcs, htr⟩ := hi i (by omega)
          obtain ⟨_, hlen, hat⟩ := World.cells?_some hcs
          obtain ⟨x, hx2, _⟩ := open_expr N (y := (D i, Pl i)) (by
            have h := size_in (H := H) (l := (List.range len).map D) (m := (List.range (m - len)).map fun j => D (len + j)) (d := D i) (List.mem_map.2 ⟨i, List.mem_range.2 hil, rfl⟩)
            rw [hx] at hN6
            have hN7 : SizeOf.sizeOf (DataW.slice ((List.range len).map D) ((List.range (m - len)).map fun j => D (len + j))) < N := hN6
            show SizeOf.sizeOf (D i) < N
            omega) htr
          exact ⟨x, cs', fun k hk => by have h1 := hat k hk; rw [add_add] at h1; exact h1, hlen, hx2⟩
        have haddr : 0 < len → a = ⟨a.block, a.off, none⟩ ∧ a.block < W.heap.size := by
          intro hl0
          obtain ⟨_, cs', hk, hlen, _⟩ := each 0 hl0
          have h1 := hk 0 (by omega)
          rw [Nat.zero_mul, Nat.zero_add, Addr.add, if_pos rfl, List.getElem?_eq_getElem (by omega)] at h1
          exact addr_here h1
        obtain ⟨T, hT⟩ := choose_lt each
        have hlen : ((List.range len).map T).length = len := by simp
        refine ⟨.mk op v rel col nn s ((List.range len).map T), ExM.iff.2 ⟨⟨r1, r2, r3⟩, some a, cap, by rw [hlen], by rw [hlen]; exact hl2, ExL.of fun j x hx => ?_⟩, rfl⟩
        have hj : j < len := by
          rcases Nat.lt_or_ge j len with h | h
          · exact h
          · rw [List.getElem?_eq_none (by rw [hlen]; exact h)] at hx; cases hx
        have hTx : T j = x := by simpa [hj] using hx
        obtain ⟨cs', hk, hl9, hx9⟩ := hT j hj
        rw [hTx] at hx9
        obtain ⟨ha, hlt⟩ := haddr (by omega)
        refine ⟨a.block, a.off, cs', by rw [← ha], hlt, hx9, fun k u hu => ?_⟩
        have hk9 : k < 9 := by
          rcases Nat.lt_or_ge k 9 with h | h
          · exact h
          · rw [List.getElem?_eq_none (by omega)] at hu; cases hu
        have h1 := hk k hk9
        rw [hu, ha, addr_off] at h1
        rw [Nat.zero_add, Nat.add_assoc]
        exact h1
theorem open_ex {r : Reach} {b0 base : Nat} {W : World} {spare : Nat → Bool} {held : Bool} {v : Value} {d : DataW H} {p : List MemPlace} (hv : Value.okWide Tryd.prog W r b0 26 v) (h : DataW.Trod enc Tryd.prog W base spare held 26 v d p) :
    ∃ (x : Ex) (cs : List Value), v = .agg cs.toArray ∧ ExM W x cs := by
  obtain ⟨cs, rfl, _⟩ := okWide_struct Tryd.underlying26 hv
  obtain ⟨fuel, hf⟩ := h
  obtain ⟨x, hx, _⟩ := open_expr _ (Nat.lt_succ_self _) hf
  exact ⟨x, cs.toList, by simp, hx⟩
end
open Go.ChangeShapes Go.WideShapes Go.ChangeAt Go.RowKit Go.Joins Go.Deep
set_option maxRecDepth 100000
section
variable {H : Type} {enc : TypeId × Value → H}
end
open Go.ChangeShapes Go.WideShapes Go.ChangeAt Go.RowKit Go.Joins Go.Deep
set_option maxRecDepth 100000
section
variable {H : Type} {enc : TypeId × Value → H} {P : Program} {w : World} {base : Nat} {spare : Nat → Bool} {held : Bool}
theorem trodAll_five {t t' t'' t3 t4 : TypeId} {args : Array Value} {ds : List (DataW H)} {ps : List MemPlace} (h : DataW.TrodAll enc P w base spare held [t, t', t'', t3, t4] args.toList ds ps) :
    ∃ v v' v'' v3 v4 d d' d'' d3 d4 p p' p'' p3 p4, args = #[v, v', v'', v3, v4] ∧ ds = [d, d', d'', d3, d4] ∧ ps = p ++ p' ++ p'' ++ p3 ++ p4 ∧ DataW.Trod enc P w base spare held t v d p ∧ DataW.Trod enc P w base spare held t' v' d' p' ∧ DataW.Trod enc P w base spare held t'' v'' d'' p'' ∧ DataW.Trod enc P w base spare held t3 v3 d3 p3 ∧ DataW.Trod enc P w base spare held t4 v4 d4 p4 := by
  obtain ⟨v, vs, d, ds', p, q, hargs, rfl, rfl, hd, hrest⟩ := trodAll_cons h
  obtain ⟨v', vs', d', ds'', p', q', rfl, rfl, rfl, hd', hrest'⟩ := trodAll_cons hrest
  obtain ⟨v'', vs'', d'', ds''', p'', q'', rfl, rfl, rfl, hd'', hrest''⟩ := trodAll_cons hrest'
  obtain ⟨v3, vs3, d3, ds3, p3, q3, rfl, rfl, rfl, hd3, hrest3⟩ := trodAll_cons hrest''
  obtain ⟨v4, vs4, d4, ds4, p4, q4, rfl, rfl, rfl, hd4, hrest4⟩ := trodAll_cons hrest3
  obtain ⟨rfl, rfl, rfl⟩ := trodAll_nil hrest4
  exact ⟨v, v', v'', v3, v4, d, d', d'', d3, d4, p, p', p'', p3, p4, by cases args; simp_all, rfl, by simp, hd, hd', hd'', hd3, hd4⟩
end
set_option maxRecDepth 100000 in
theorem signRanks_lifted (os : Os) (started : os.Started) (H : Type) (enc : TypeId × Value → H) :
    ReturnsInHanded {} Tryd.checked os 7 .any (fun w args => (Rows.signRanksSpec.pre enc Tryd.prog Tryd.f7 Rows.signRanksRow.domain false w args ∧ laidMetH Tryd.prog laidVars w) ∧ sizedMet enc Tryd.prog Tryd.f7 (OpenSpec.ofChange Rows.signRanksSpec) false w args) (Rows.signRanksSpec.post enc Tryd.prog Tryd.f7 false true false false) := by
  refine returnsInHanded_of_change_and (C := Tryd.checked) (X := fun w _ => laidMetH Tryd.prog laidVars w) (fun _ _ _ hh h => h.of_heap hh) Tryd.own started (by kernel_rfl) Tryd.func7
    (ChangeSpec.witness_shaped (enc := enc) (C := Tryd.checked) (os := os) (X := fun w _ => laidMetH Tryd.prog laidVars w) false (World.laidAll Tryd.prog os laidVars) #[.int .i64 0, .int .i64 0, .int .i64 0, .int .i64 0, .int .i64 0] 8 (World.laidAll_os _ _ _)
      (wit_shaped os _) (by kernel_rfl) (by kernel_rfl) (by kernel_rfl) (wit_met os _)) ?_
  intro W base args ds gs before hval0 hW _ hsz hL _
  have hval : ∀ (j : Nat) t v, Tryd.f7.params[j]? = some t → args[j]? = some v → Value.okWide Tryd.prog W .any base t v := hval0
  have hW' := hW
  obtain ⟨p, q, hA0, hV, rfl, _, _⟩ := hW
  have hA : DataW.TrodAll enc Tryd.prog W 0 (fun _ => true) true Tryd.f7.params.toList args.toList ds p := hA0
  rw [Tryd.params7] at hA hval hsz
  obtain ⟨v0, v1, v2, v3, v4, d0, d1, d2, d3, d4, p0, p1, p2, p3, p4, rfl, rfl, rfl, h0, h1, h2, h3, h4⟩ := trodAll_five hA
  obtain ⟨z0, rfl, iz0⟩ := open_num (hval 0 3 v0 rfl rfl) h0
  obtain ⟨z1, rfl, iz1⟩ := open_num (hval 1 3 v1 rfl rfl) h1
  obtain ⟨z2, rfl, iz2⟩ := open_num (hval 2 3 v2 rfl rfl) h2
  obtain ⟨z3, rfl, iz3⟩ := open_num (hval 3 3 v3 rfl rfl) h3
  obtain ⟨z4, rfl, iz4⟩ := open_num (hval 4 3 v4 rfl rfl) h4
  have hG := GE.of_laid hL
  clear hA0 hval0 hL
  refine (signRanks_any z0 z1 z2 z3 z4 iz0 iz1 iz2 iz3 iz4 W hG).mono fun e W' ⟨he, hb⟩ => ⟨_, he, post_law rfl hW' rfl rfl ?_ hb⟩
  intro t ht
  rw [Tryd.params7] at ht
  simp only [List.mem_cons, List.not_mem_nil, or_false] at ht
  rcases ht with rfl | rfl | rfl | rfl | rfl <;> exact ⟨by kernel_rfl, of_decide_eq_true (by kernel_rfl)⟩
theorem signRanks_holds : Rows.SignRanksSaid :=
  OpenClaim.holds_of_wide 7 Tryd.f7 rfl rfl rfl rfl rfl rfl rfl ⟨rfl, rfl, rfl, rfl, rfl⟩ rfl rfl rfl rfl rfl (by kernel_rfl) Tryd.func7 (by kernel_rfl)
    (of_decide_eq_true (by kernel_rfl)) (by unfold Func.isWrapper; rw [if_neg (of_decide_eq_false (by kernel_rfl))]; exact ⟨rfl, rfl⟩)
    (fun os started H enc _ => signRanks_lifted os started H enc)
set_option maxRecDepth 100000 in
theorem signRanks_card : Rows.SignRanksCardSaid :=
  Claim7.holds_tied_plain_at .later [] Rows.signRanksCard.laidKinds true Rows.signRanksCard.stood.harness Rows.signRanksCard.stood.looks (signRanks_holds) (fun _ h => by cases h) (by kernel_rfl) (fun _ h => by cases h) signRanks_row_tie rfl ⟨rfl, rfl⟩ (by kernel_rfl) rfl
    (fun f fn hf hfn => by
      obtain rfl : f = 7 := Option.some.inj ((show Tryd.prog.funcNamed "weathercock/weathercocklaw12.SignRanks" = some 7 by kernel_rfl).symm.trans hf) |>.symm
      obtain rfl : fn = Tryd.f7 := (Option.some.inj (Tryd.func7.symm.trans hfn)).symm
      exact ⟨by kernel_rfl, fun j t ht => by
        rw [Tryd.params7] at ht
        have hm : t ∈ [3, 3, 3, 3, 3] := by simpa using Array.mem_of_getElem? ht
        have hall : ([3, 3, 3, 3, 3].all fun u => !Tryd.prog.wantsStandIn u) = true := by kernel_rfl
        exact (show Tryd.prog.wantsStandIn t = false by simpa using List.all_eq_true.1 hall t hm)⟩)
    (by kernel_rfl)
open Go.RowKit Go.Maps Go.ChangeShapes Go.Deep Go.Shelf
set_option maxRecDepth 100000
set_option maxHeartbeats 8000000 in
theorem exprs_any (L : List Ex) (qa qb : Option Addr) (ca cb : Nat) (w : World) (ha : ExL w qa 0 L) (hb : ExL w qb 0 L) (hr : L.all rightE = true) (hn : L.length ≤ 1353245080340) :
    Calls Tryd.prog 14 #[.slice qa L.length ca, .slice qb L.length cb] w fun e w' => e = .returned (.bool true) ∧ Below w.heap.size w w' := by
  have HA := Lib.hid ha
  have HB := Lib.hid hb
  have HR := Lib.hid hr
  obtain ⟨n, hnn⟩ : ∃ n, n = L.length := ⟨_, rfl⟩
  have HN := Lib.hid hnn
  rw [← hnn] at hn ⊢
  clear hnn ha hb hr
  go_enter Tryd.func14, Tryd.ntmps14
  go_wp2_with fail
  go_loopw [5] (fun v5 wr => ∃ i : Nat, v5 = .int .i64 i ∧ i ≤ n ∧ Hid (Below w.heap.size w wr)) (fun v5 _ => ((n : Int) - intOf v5).toNat)
  case atStart => exact ⟨0, rfl, Nat.zero_le _, Below.refl _ _⟩
  case round =>
    obtain ⟨i, rfl, hi, HH⟩ := hrel
    obtain ⟨V, hV⟩ : ∃ V, V = wr := ⟨_, rfl⟩
    rw [← hV] at HH
    rw [← hV]
    clear hV
    by_cases hlt : i < n
    · obtain ⟨y, hy⟩ : ∃ y, L[i]? = some y := ⟨_, List.getElem?_eq_getElem (by rw [← HN.out]; exact hlt)⟩
      have hl_ := ExL.at_ (ExL.ext HH.out _ _ _ HA.out) hy
      obtain ⟨g0, off0, cs0, hq0, hg0, hx0, hcell⟩ := hl_
      subst hq0
      have hm_ := ExL.at_ (ExL.ext HH.out _ _ _ HB.out) hy
      obtain ⟨g1, off1, cs1, hq1, hg1, hx1, hcell1⟩ := hm_
      subst hq1
      obtain ⟨ho, hd, hc⟩ := right_iff8.1 (List.all_eq_true.1 HR.out _ (List.mem_of_getElem? hy))
      have CA := Lib.hid (fun (W : World) (hb : Below V.heap.size V W) => rprint_any _ _ (Nat.le_refl _) ho hc _ W (ExM.ext hb _ _ hx0))
      have CB := Lib.hid (fun (W : World) (hb : Below V.heap.size V W) => rprint_any _ _ (Nat.le_refl _) ho hc _ W (ExM.ext hb _ _ hx1))
      obtain ⟨S, hS⟩ : ∃ S, S = bsB y.print := ⟨_, rfl⟩
      rw [← hS] at CA CB
      clear hy ho hd hc hS
      obtain ⟨op1, v1, rel1, col1, n1, s1, l1⟩ := y
      rw [ExM.iff] at hx0 hx1
      obtain ⟨-, qq0, cc0, rfl, -, -⟩ := hx0
      obtain ⟨-, qq1, cc1, rfl, -, -⟩ := hx1
      have f0 := hcell 0 _ rfl
      have f1 := hcell 1 _ rfl
      have f2 := hcell 2 _ rfl
      have f3 := hcell 3 _ rfl
      have f4 := hcell 4 _ rfl
      have f5 := hcell 5 _ rfl
      have f6 := hcell 6 _ rfl
      have f7 := hcell 7 _ rfl
      have f8 := hcell 8 _ rfl
      simp only [Nat.zero_add, Nat.add_zero] at f0 f1 f2 f3 f4 f5 f6 f7 f8
      clear hcell
      obtain ⟨len, hlen⟩ : ∃ len, len = l1.length := ⟨_, rfl⟩
      rw [← hlen] at CA CB f8 hcell1
      clear hlen
      go_wp2_with fail
      refine (CA.out _ (Below.refl _ _)).mono ?_
      rintro e X ⟨rfl, hbX⟩
      have HX := Lib.hid hbX
      have hg1 : g1 < X.heap.size := Nat.lt_of_lt_of_le hg1 hbX.size
      have k := fun (j : Nat) u (hu : (exCells op1 v1 rel1 col1 n1 s1 qq1 len cc1)[j]? = some u) => (hbX.cell (p := ⟨g1, off1 + (0 + i) * 9 + j, none⟩) (by assumption)).trans (hcell1 j u hu)
      have k0 := k 0 _ rfl
      have k1 := k 1 _ rfl
      have k2 := k 2 _ rfl
      have k3 := k 3 _ rfl
      have k4 := k 4 _ rfl
      have k5 := k 5 _ rfl
      have k6 := k 6 _ rfl
      have k7 := k 7 _ rfl
      have k8 := k 8 _ rfl
      simp only [Nat.zero_add, Nat.add_zero] at k0 k1 k2 k3 k4 k5 k6 k7 k8
      clear k hcell1 f0 f1 f2 f3 f4 f5 f6 f7 f8 hbX
      go_wp2_with fail
      refine (CB.out _ HX.out).mono ?_
      rintro e Y ⟨rfl, hbY⟩
      have HY := Lib.hid (HH.out.trans ((HX.out.trans (hbY.mono HX.out.size)).mono HH.out.size))
      clear k0 k1 k2 k3 k4 k5 k6 k7 k8 hbY
      go_wp2_with fail
      go_roundw
      case rel => exact ⟨i + 1, by go_num, hlt, HY.out⟩
      case measure => simp [intOf] <;> omega
    · go_wp2_with fail
      refine bodyPost_ret (v := .bool true) (by simp [results, Tryd.results14, go_sem]) rfl ⟨rfl, HH.out⟩
end Go.Proofs.YtklgoajgchfmeaaDoor
