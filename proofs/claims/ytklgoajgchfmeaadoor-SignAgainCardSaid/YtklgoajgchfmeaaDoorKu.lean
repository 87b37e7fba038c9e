/- A part of the proof. -/
import Derived.Test.YtklgoajgchfmeaaDoorKt
import Derived.Test.YtklgoajgchfmeaaDoorKn
set_option linter.unusedVariables false
set_option linter.unusedSimpArgs false
namespace Go.Proofs.YtklgoajgchfmeaaDoor
open Go.RowKit Go.Maps Go.ChangeShapes Go.Deep Go.Shelf
set_option maxRecDepth 100000
set_option maxHeartbeats 8000000 in
theorem signAgain_any (x : Ex) (cs : List Value) (L : List Ex) (q : Option Addr) (c : Nat) (w : World) (hx : ExM w x cs) (hL : ExL w q 0 L) (hn : L.length * 104 ≤ 140737488355328) (hG : GE w) :
    Calls Tryd.prog 5 #[.agg cs.toArray, .slice q L.length c] w fun e w' => e = .returned (.bool true) ∧ Below w.heap.size w w' := by
  have HX := Lib.hid hx
  have HL := Lib.hid hL
  have HG := Lib.hid hG
  have HN := Lib.hid hn
  obtain ⟨hC1, hC2, hC3⟩ := conds_again L
  have HC1 := Lib.hid hC1
  have HC2 := Lib.hid hC2
  have HC3 := Lib.hid hC3
  obtain ⟨op, v, rel, col, n, s, l⟩ := x
  rw [ExM.iff] at hx
  obtain ⟨-, qe, ce, rfl, -, -⟩ := hx
  obtain ⟨X, hX⟩ : ∃ X, X = Ex.mk op v rel col n s l := ⟨_, rfl⟩
  rw [← hX] at HX
  obtain ⟨le, hle⟩ : ∃ k, k = l.length := ⟨_, rfl⟩
  rw [← hle] at HX ⊢
  obtain ⟨m, hm⟩ : ∃ k, k = L.length := ⟨_, rfl⟩
  have HM := Lib.hid hm
  rw [← hm]
  clear hX hle hm hL hn hG hC1 hC2 hC3
  obtain ⟨W, e0, K0, b0, -⟩ := new_block w (exCells op v rel col n s qe le ce) 26 _ rfl
  have HE := Lib.hid e0
  have HB := Lib.hid b0
  have HK := Lib.hid K0
  clear e0 b0 K0
  go_enter Tryd.func5, Tryd.ntmps5
  go_upto_region 1 with fail
  change Code.wp _ _ _ _ (w.alloc (.cells (exCells op v rel col n s qe le ce).toArray 26))
  rw [HE.out]
  clear HE
  obtain ⟨g, hg⟩ : ∃ g, g = w.heap.size := ⟨_, rfl⟩
  rw [← hg] at HK ⊢
  clear hg
  go_wp2_with fail
  refine (examples12_any W (HG.out.on HB.out)).mono ?_
  rintro e Y ⟨rfl, hy⟩
  have HY := Lib.hid (HB.out.trans (hy.mono HB.out.size))
  have HKY := Lib.hid (HK.out.on hy)
  have lt := HKY.out.lt
  have c0 := HKY.out.c 0 _ rfl
  have c1 := HKY.out.c 1 _ rfl
  have c2 := HKY.out.c 2 _ rfl
  have c3 := HKY.out.c 3 _ rfl
  have c4 := HKY.out.c 4 _ rfl
  have c5 := HKY.out.c 5 _ rfl
  have c6 := HKY.out.c 6 _ rfl
  have c7 := HKY.out.c 7 _ rfl
  have c8 := HKY.out.c 8 _ rfl
  clear hy HB HK
  go_wp2_with fail
  refine (dnormal_any X _ Y (ExM.ext HY.out _ _ HX.out) (HG.out.on HY.out)).mono ?_
  rintro e Z ⟨⟨r, rfl, hr⟩, hz⟩
  have HZ := Lib.hid (HY.out.trans (hz.mono HY.out.size))
  have HKZ := Lib.hid (HKY.out.on hz)
  have HRA := Lib.hid (ExMP.toM _ _ hr)
  clear c0 c1 c2 c3 c4 c5 c6 c7 c8 lt hz hr HKY HY
  cases hri : rightE X with
  | false =>
    have HRI := Lib.hid hri
    rw [show errR X = 1 by unfold errR; rw [hri]; rfl]
    clear hri
    have lt := HKZ.out.lt
    have c0 := HKZ.out.c 0 _ rfl
    have c1 := HKZ.out.c 1 _ rfl
    have c2 := HKZ.out.c 2 _ rfl
    have c3 := HKZ.out.c 3 _ rfl
    have c4 := HKZ.out.c 4 _ rfl
    have c5 := HKZ.out.c 5 _ rfl
    have c6 := HKZ.out.c 6 _ rfl
    have c7 := HKZ.out.c 7 _ rfl
    have c8 := HKZ.out.c 8 _ rfl
    clear HRA
    go_wp2_with fail
    obtain ⟨V, e0, -, b0, -⟩ := new_block Z r.cells 26 _ rfl
    refine calls_world (W' := V) ?_ (by rw [← e0])
    have HV := Lib.hid (HZ.out.trans (b0.mono HZ.out.size))
    clear e0 b0 lt c0 c1 c2 c3 c4 c5 c6 c7 c8
    refine (dright_any X _ V (ExM.ext HV.out _ _ HX.out) (HG.out.on HV.out)).mono ?_
    rintro e U ⟨rfl, hu⟩
    rw [HRI.out]
    have HU := Lib.hid (HV.out.trans (hu.mono HV.out.size))
    clear hu
    go_wp2_with fail
    refine bodyPost_ret (v := .bool true) (by simp [results, Tryd.results5, go_sem]) rfl ⟨rfl, HU.out⟩
  | true =>
    rw [show errR X = 0 by unfold errR; rw [hri]; rfl]
    rw [show normR X = X.norm by unfold normR; rw [hri]; rfl] at HRA
    have HRN := Lib.hid (show rightE X.norm = true by rw [norm_right]; exact hri)
    clear hri
    go_wp2_with fail
    obtain ⟨V, e0, K0, b0, -⟩ := new_block Z r.cells 26 _ rfl
    refine calls_world (W' := V) ?_ (by rw [← e0])
    have HV := Lib.hid (HZ.out.trans (b0.mono HZ.out.size))
    have HRA := Lib.hid (ExM.ext b0 _ _ HRA.out)
    have HKA := Lib.hid K0
    obtain ⟨ga, hga⟩ : ∃ g, g = Z.heap.size := ⟨_, rfl⟩
    rw [← hga] at HKA ⊢
    clear e0 b0 K0 hga HKZ
    refine (dnormal_any X.norm _ V HRA.out (HG.out.on HV.out)).mono ?_
    rintro e U ⟨⟨r2, rfl, hr2⟩, hu⟩
    rw [show errR X.norm = 0 by unfold errR; rw [HRN.out]; rfl]
    rw [show normR X.norm = X.norm by unfold normR; rw [HRN.out, norm_norm]; rfl] at hr2
    have HRB := Lib.hid (ExMP.toM _ _ hr2)
    have HU := Lib.hid (HV.out.trans (hu.mono HV.out.size))
    have HKA := Lib.hid (HKA.out.on hu)
    have HRA := Lib.hid (ExM.ext hu _ _ HRA.out)
    clear hu hr2 HV HZ
    go_wp2_with fail
    obtain ⟨V2, e0, K0, b0, -⟩ := new_block U r2.cells 26 _ rfl
    refine calls_world (W' := V2) ?_ (by rw [← e0])
    have HV := Lib.hid (HU.out.trans (b0.mono HU.out.size))
    have HRA := Lib.hid (ExM.ext b0 _ _ HRA.out)
    have HRB := Lib.hid (ExM.ext b0 _ _ HRB.out)
    have HKA := Lib.hid (HKA.out.on b0)
    have HKB := Lib.hid K0
    obtain ⟨gb, hgb⟩ : ∃ g, g = U.heap.size := ⟨_, rfl⟩
    rw [← hgb] at HKB ⊢
    clear e0 b0 K0 hgb HU
    rw [HM.out]
    refine (dconds_any L q c V2 (ExL.ext HV.out _ _ _ HL.out) HN.out (HG.out.on HV.out)).mono ?_
    rintro e T1 ⟨⟨ql, cl, rfl, ho⟩, ht⟩
    obtain ⟨q1, c1, hv1, -, -, hx1⟩ := ho.toL
    rw [← HM.out]
    obtain ⟨rfl, -, rfl⟩ : ql = q1 ∧ True ∧ cl = c1 := by simpa using hv1
    have HCL := Lib.hid hx1
    have HT := Lib.hid (HV.out.trans (ht.mono HV.out.size))
    have HRA := Lib.hid (ExM.ext ht _ _ HRA.out)
    have HRB := Lib.hid (ExM.ext ht _ _ HRB.out)
    have HKA := Lib.hid (HKA.out.on ht)
    have HKB := Lib.hid (HKB.out.on ht)
    obtain ⟨C, hC⟩ : ∃ C, C = condsE L := ⟨_, rfl⟩
    rw [← hC] at HC1 HC2 HC3 HCL ⊢
    obtain ⟨EC, hEC⟩ : ∃ e, e = errC L := ⟨_, rfl⟩
    rw [← hEC]
    have HEC := Lib.hid (show EC = 0 ∨ EC = 1 by rw [hEC]; unfold errC; split <;> simp)
    obtain ⟨k, hk⟩ : ∃ k, k = C.length := ⟨_, rfl⟩
    have HKL := Lib.hid hk
    rw [← hk]
    clear hk hEC hC hx1 hv1 ho ht HV
    go_wp2_with fail
    have hcn : C.length * 104 ≤ 140737488355328 := by have h1 := HC3.out; have h2 := HN.out; omega
    have HCN := Lib.hid hcn
    clear hcn
    rw [HKL.out]
    refine (dconds_any C ql cl T1 HCL.out HCN.out (HG.out.on HT.out)).mono ?_
    rintro e T2 ⟨⟨qm, cm, rfl, ho⟩, ht⟩
    rw [HC1.out] at ho ⊢
    rw [show errC C = 0 by unfold errC; rw [HC2.out]; rfl]
    obtain ⟨q1, c1, hv1, -, -, hx1⟩ := ho.toL
    obtain ⟨rfl, -, rfl⟩ : qm = q1 ∧ True ∧ cm = c1 := by simpa using hv1
    rw [← HKL.out]
    have HDL := Lib.hid hx1
    have HCL := Lib.hid (ExL.ext ht _ _ _ HCL.out)
    have HT2 := Lib.hid (HT.out.trans (ht.mono HT.out.size))
    have HRA := Lib.hid (ExM.ext ht _ _ HRA.out)
    have HRB := Lib.hid (ExM.ext ht _ _ HRB.out)
    have HKA := Lib.hid (HKA.out.on ht)
    have HKB := Lib.hid (HKB.out.on ht)
    clear ho hx1 hv1 ht HT
    have ltA := HKA.out.lt
    have ltB := HKB.out.lt
    have a0 := HKA.out.c 0 _ rfl
    have a1 := HKA.out.c 1 _ rfl
    have a2 := HKA.out.c 2 _ rfl
    have a3 := HKA.out.c 3 _ rfl
    have a4 := HKA.out.c 4 _ rfl
    have a5 := HKA.out.c 5 _ rfl
    have a6 := HKA.out.c 6 _ rfl
    have a7 := HKA.out.c 7 _ rfl
    have a8 := HKA.out.c 8 _ rfl
    have d0 := HKB.out.c 0 _ rfl
    have d1 := HKB.out.c 1 _ rfl
    have d2 := HKB.out.c 2 _ rfl
    have d3 := HKB.out.c 3 _ rfl
    have d4 := HKB.out.c 4 _ rfl
    have d5 := HKB.out.c 5 _ rfl
    have d6 := HKB.out.c 6 _ rfl
    have d7 := HKB.out.c 7 _ rfl
    have d8 := HKB.out.c 8 _ rfl
    go_wp2_with fail
    clear ltA ltB a0 a1 a2 a3 a4 a5 a6 a7 a8 d0 d1 d2 d3 d4 d5 d6 d7 d8
    obtain ⟨V3, e3, K3, b3, s3⟩ := new_block T2 r.cells 26 _ rfl
    obtain ⟨V4, e4, K4, b4, -⟩ := new_block V3 r2.cells 26 _ s3
    refine calls_world (W' := V4) ?_ (by rw [← e4, ← e3])
    have HV4 := Lib.hid (HT2.out.trans ((b3.trans (b4.mono b3.size)).mono HT2.out.size))
    have HRA := Lib.hid (ExM.ext (b3.trans (b4.mono b3.size)) _ _ HRA.out)
    have HRB := Lib.hid (ExM.ext (b3.trans (b4.mono b3.size)) _ _ HRB.out)
    have HCL := Lib.hid (ExL.ext (b3.trans (b4.mono b3.size)) _ _ _ HCL.out)
    have HDL := Lib.hid (ExL.ext (b3.trans (b4.mono b3.size)) _ _ _ HDL.out)
    have HKA := Lib.hid (HKA.out.on (b3.trans (b4.mono b3.size)))
    have O1 := (K3.on b4).one HRA.out
    have O2 := K4.one HRB.out
    clear K3 K4 e3 e4 s3 b3 b4 HRB HKB HT2
    refine (exprs_any [X.norm] _ _ 1 1 V4 O1 O2 (by rw [List.all_cons, HRN.out]; rfl) (by simp)).mono ?_
    rintro e V5 ⟨rfl, h5⟩
    have HV5 := Lib.hid (HV4.out.trans (h5.mono HV4.out.size))
    have HRA := Lib.hid (ExM.ext h5 _ _ HRA.out)
    have HCL := Lib.hid (ExL.ext h5 _ _ _ HCL.out)
    have HDL := Lib.hid (ExL.ext h5 _ _ _ HDL.out)
    have HKA := Lib.hid (HKA.out.on h5)
    clear O1 O2 h5 HV4
    go_wp2_with fail
    rw [HKL.out]
    refine (exprs_any C _ _ cl cm V5 HCL.out HDL.out HC2.out (by have := HCN.out; omega)).mono ?_
    rintro e V6 ⟨rfl, h6⟩
    have HV6 := Lib.hid (HV5.out.trans (h6.mono HV5.out.size))
    have HRA := Lib.hid (ExM.ext h6 _ _ HRA.out)
    have HKA := Lib.hid (HKA.out.on h6)
    clear h6 HV5 HCL HDL
    have ltA := HKA.out.lt
    have a0 := HKA.out.c 0 _ rfl
    have a1 := HKA.out.c 1 _ rfl
    have a2 := HKA.out.c 2 _ rfl
    have a3 := HKA.out.c 3 _ rfl
    have a4 := HKA.out.c 4 _ rfl
    have a5 := HKA.out.c 5 _ rfl
    have a6 := HKA.out.c 6 _ rfl
    have a7 := HKA.out.c 7 _ rfl
    have a8 := HKA.out.c 8 _ rfl
    rw [← HKL.out]
    have hkm : k ≤ m := by rw [HKL.out, HM.out]; exact HC3.out
    rcases HEC.out with he | he
    all_goals
      subst he
      go_wp2_with fail
      refine (dright_any X.norm _ V6 HRA.out (HG.out.on HV6.out)).mono ?_
      rintro e V7 ⟨rfl, h7⟩
      rw [HRN.out]
      have HV7 := Lib.hid (HV6.out.trans (h7.mono HV6.out.size))
      clear h7
      go_wp2_with fail
      refine bodyPost_ret (v := .bool true) (by simp [results, Tryd.results5, go_sem]) rfl ⟨rfl, HV7.out⟩
open Go.ChangeShapes Go.WideShapes Go.ChangeAt Go.RowKit Go.Joins Go.Deep
set_option maxRecDepth 100000
section
variable {H : Type} {enc : TypeId × Value → H}
theorem Tryd.bytesExpr : Tryd.prog.bytesOf 26 = 104 := by kernel_rfl
def exprC (W : World) : Nat → Nat → Ex → Prop := fun g o x => ∃ cs, ExM W x cs ∧ ∀ (k : Nat) u, cs[k]? = some u → W.cell? ⟨g, o + k, none⟩ = some u
theorem exprs_in {W : World} {q : Option Addr} {l : List Ex} (h : ArrA 0 W.heap.size q 9 l (exprC W)) : ExL W q 0 l := ExL.of fun j x hx => by
  have hj : j < l.length := (List.getElem?_eq_some_iff.1 hx).1
  obtain ⟨g, off, h1, -, h3, h4⟩ := h 0 (by omega)
  obtain ⟨cs, h5, h6⟩ := h4 j x hx
  exact ⟨g, off, cs, h1, h3, h5, fun k u hu => by rw [Nat.zero_add]; exact h6 k u hu⟩
theorem open_exprsC {W : World} {base fuel : Nat} {spare : Nat → Bool} {held : Bool} {cs : List Value} {y : DataW H × List MemPlace} (hf : DataW.trod enc Tryd.prog W base spare held fuel 24 cs = some y) (hz : ∀ n ∈ y.1.weights Tryd.prog 24, n ≤ reachBytes) :
    ∃ (q : Option Addr) (l : List Ex) (c : Nat), cs = [.slice q l.length c] ∧ l.length ≤ c ∧ c ≤ 9223372036854775807 ∧ ExL W q 0 l ∧ l.length * 104 ≤ 140737488355328 := by
  obtain ⟨q, l, c, h1, h2, h3, h4, h5, _⟩ := open_arr Tryd.underlying24 Tryd.cellsExpr (by omega) (exprC W) (fun _ => True) hf hz (fun cs y n htr _ g o hk => by
    obtain ⟨x, hx, hl⟩ := open_expr _ (Nat.lt_succ_self _) htr
    exact ⟨x, ⟨cs, hx, fun k u hu => hk k u (by rw [← hl]; exact (List.getElem?_eq_some_iff.1 hu).1) hu⟩, trivial⟩)
  rw [Tryd.bytesExpr] at h4
  exact ⟨q, l, c, h1, h2, h3, exprs_in h5, Nat.le_trans h4 (by decide)⟩
theorem open_exprs {W : World} {spare : Nat → Bool} {held : Bool} {r : Reach} {b0 base : Nat} {v : Value} {d : DataW H} {p : List MemPlace} (hv : Value.okWide Tryd.prog W r b0 24 v) (h : DataW.Trod enc Tryd.prog W base spare held 24 v d p) (hz : ∀ n ∈ d.weights Tryd.prog 24, n ≤ reachBytes) :
    ∃ (q : Option Addr) (l : List Ex) (c : Nat), v = .slice q l.length c ∧ l.length ≤ c ∧ c ≤ 9223372036854775807 ∧ ExL W q 0 l ∧ l.length * 104 ≤ 140737488355328 := by
  obtain ⟨a0, len, cap, rfl⟩ := okWide_slice Tryd.underlying24 hv
  obtain ⟨fuel, hf⟩ := h
  obtain ⟨q, l, c, h1, h2, h3, h5, h6⟩ := open_exprsC hf hz
  simp [Value.cells] at h1
  obtain ⟨rfl, rfl, rfl⟩ := h1
  exact ⟨_, l, _, rfl, h2, h3, h5, h6⟩
end
open Go.ChangeShapes Go.WideShapes Go.ChangeAt Go.RowKit Go.Joins Go.Deep
set_option maxRecDepth 100000
set_option maxRecDepth 100000 in
theorem signAgain_lifted (os : Os) (started : os.Started) (H : Type) (enc : TypeId × Value → H) :
    ReturnsInHanded {} Tryd.checked os 5 .any (fun w args => (Rows.signAgainSpec.pre enc Tryd.prog Tryd.f5 Rows.signAgainRow.domain false w args ∧ laidMetH Tryd.prog laidVars w) ∧ sizedMet enc Tryd.prog Tryd.f5 (OpenSpec.ofChange Rows.signAgainSpec) false w args) (Rows.signAgainSpec.post enc Tryd.prog Tryd.f5 false true false false) := by
  refine returnsInHanded_of_change_and (C := Tryd.checked) (X := fun w _ => laidMetH Tryd.prog laidVars w) (fun _ _ _ hh h => h.of_heap hh) Tryd.own started (by kernel_rfl) Tryd.func5
    (ChangeSpec.witness_shaped (enc := enc) (C := Tryd.checked) (os := os) (X := fun w _ => laidMetH Tryd.prog laidVars w) false (World.laidAll Tryd.prog os laidVars) #[.agg #[.int .i64 0, .int .i64 0, .int .i64 0, .string ⟨#[]⟩, .int .i64 0, .int .i64 0, .int .i64 0, .string ⟨#[]⟩, .slice none 0 0], .slice none 0 0] 8 (World.laidAll_os _ _ _)
      (wit_shaped os _) (by kernel_rfl) (by kernel_rfl) (by kernel_rfl) (wit_met os _)) ?_
  intro W base args ds gs before hval0 hW _ hsz hL _
  have hval : ∀ (j : Nat) t v, Tryd.f5.params[j]? = some t → args[j]? = some v → Value.okWide Tryd.prog W .any base t v := hval0
  have hW' := hW
  obtain ⟨p, q, hA0, hV, rfl, _, _⟩ := hW
  have hA : DataW.TrodAll enc Tryd.prog W 0 (fun _ => true) true Tryd.f5.params.toList args.toList ds p := hA0
  rw [Tryd.params5] at hA hval hsz
  obtain ⟨v0, v1, d0, d1, p0, p1, rfl, rfl, rfl, h0, h1⟩ := trodAll_two hA
  obtain ⟨x0, cs0, rfl, hx0⟩ := open_ex (hval 0 26 v0 rfl rfl) h0
  obtain ⟨q1, L1, c1, rfl, le1, m1, hl1, few1⟩ := open_exprs (hval 1 24 v1 rfl rfl) h1 (fun n hn => of_decide_eq_true (List.all_eq_true.1 hsz _ (DataW.weights_mem_each (j := 1) (t := 24) rfl rfl n hn)))
  have hG := GE.of_laid hL
  clear hA0 hval0 hL
  refine (signAgain_any x0 _ L1 q1 c1 W hx0 hl1 few1 hG).mono fun e W' ⟨he, hb⟩ => ⟨_, he, post_law rfl hW' rfl rfl ?_ hb⟩
  intro t ht
  rw [Tryd.params5] at ht
  simp only [List.mem_cons, List.not_mem_nil, or_false] at ht
  rcases ht with rfl | rfl <;> exact ⟨by kernel_rfl, of_decide_eq_true (by kernel_rfl)⟩
theorem signAgain_holds : Rows.SignAgainSaid :=
  OpenClaim.holds_of_wide 5 Tryd.f5 rfl rfl rfl rfl rfl rfl rfl ⟨rfl, rfl, rfl, rfl, rfl⟩ rfl rfl rfl rfl rfl (by kernel_rfl) Tryd.func5 (by kernel_rfl)
    (of_decide_eq_true (by kernel_rfl)) (by unfold Func.isWrapper; rw [if_neg (of_decide_eq_false (by kernel_rfl))]; exact ⟨rfl, rfl⟩)
    (fun os started H enc _ => signAgain_lifted os started H enc)
set_option maxRecDepth 100000 in
theorem signAgain_card : Rows.SignAgainCardSaid :=
  Claim7.holds_tied_plain_at .later [] Rows.signAgainCard.laidKinds true Rows.signAgainCard.stood.harness Rows.signAgainCard.stood.looks (signAgain_holds) (fun _ h => by cases h) (by kernel_rfl) (fun _ h => by cases h) signAgain_row_tie rfl ⟨rfl, rfl⟩ (by kernel_rfl) rfl
    (fun f fn hf hfn => by
      obtain rfl : f = 5 := Option.some.inj ((show Tryd.prog.funcNamed "weathercock/weathercocklaw12.SignAgain" = some 5 by kernel_rfl).symm.trans hf) |>.symm
      obtain rfl : fn = Tryd.f5 := (Option.some.inj (Tryd.func5.symm.trans hfn)).symm
      exact ⟨by kernel_rfl, fun j t ht => by
        rw [Tryd.params5] at ht
        have hm : t ∈ [26, 24] := by simpa using Array.mem_of_getElem? ht
        have hall : ([26, 24].all fun u => !Tryd.prog.wantsStandIn u) = true := by kernel_rfl
        exact (show Tryd.prog.wantsStandIn t = false by simpa using List.all_eq_true.1 hall t hm)⟩)
    (by kernel_rfl)
end Go.Proofs.YtklgoajgchfmeaaDoor
