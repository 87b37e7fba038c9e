/- A part of the proof. -/
import Derived.Test.YtklgoajgchfmeaaGreatDoorKi
import Derived.Test.YtklgoajgchfmeaaGreatDoorDvM
import Derived.Test.YtklgoajgchfmeaaGreatDoorKs
import Derived.Test.YtklgoajgchfmeaaGreatDoorKb
import Derived.Test.YtklgoajgchfmeaaGreatDoorCards
import Derived.Test.YtklgoajgchfmeaaGreatDoorTie
import Derived.Lay
import Derived.LaidMore
import Derived.OpenShut
import Derived.SevenTiedAt
import Derived.Stop.Joined
import Derived.SizedLaws
set_option linter.unusedVariables false
set_option linter.unusedSimpArgs false
namespace Go.Proofs.YtklgoajgchfmeaaGreatDoor
theorem arith_comm {op : Int} (h : op = 4 ∨ op = 6) (x y : Val) : arith op y x = arith op x y := by
  unfold arith
  have h7 : (op == 7) = false := by rw [beq_eq_false_iff_ne]; omega
  rw [h7, Bool.and_comm (y.nullOr 1), Bool.or_comm (y.k == 0)]
  have hc : comp op y.n x.n = comp op x.n y.n := by
    rcases h with rfl | rfl
    · simp [comp, Int.add_comm]
    · simp [comp, Int.mul_comm]
  rw [hc]
  simp
theorem conn_comm (d o : Int) (x y : Val) : conn d o y x = conn d o x y := by
  unfold conn
  rw [Bool.and_comm (y.nullOr 2), Bool.or_comm (y.k == 2 && y.n == d), Bool.or_comm (y.k == 0)]
theorem testable_flip {op op' : Int} (h : 9 ≤ op ∧ op ≤ 14) (h' : 9 ≤ op' ∧ op' ≤ 14) (x y : Val) : testable op' y x = testable op x y := by
  unfold testable
  rw [decide_eq_true h.1, decide_eq_true h.2, decide_eq_true h'.1, decide_eq_true h'.2]
  have e : (y.k == x.k) = (x.k == y.k) := by rw [Bool.eq_iff_iff, beq_iff_eq, beq_iff_eq]; exact eq_comm
  rw [e]
  cases x.right <;> cases y.right <;> cases (x.k == 0) <;> cases (y.k == 0) <;> cases (x.k == y.k) <;> rfl
theorem test_flip {op op' : Int} (h : 9 ≤ op ∧ op ≤ 14) (h' : 9 ≤ op' ∧ op' ≤ 14) (hh : ∀ c : Int, holdsB op' (-c) = holdsB op c) (x y : Val) : testS op' y x = testS op x y := by
  unfold testS
  rw [testable_flip h h', Bool.or_comm (y.k == 0), show y.cmp x = -(x.cmp y) from (cmp_ord x y y).anti, hh]
theorem apply_flip {op op' : Int} (h : (commutes op = true ∧ op' = op) ∨ (op = 13 ∧ op' = 11) ∨ (op = 14 ∧ op' = 12)) (x y : Val) : applyS op' y x = applyS op x y := by
  rcases h with ⟨hc, rfl⟩ | ⟨rfl, rfl⟩ | ⟨rfl, rfl⟩
  · have hc' : op' = 4 ∨ op' = 6 ∨ op' = 9 ∨ op' = 10 ∨ op' = 15 ∨ op' = 16 := by simpa [commutes, or_assoc] using hc
    rcases hc' with rfl | rfl | rfl | rfl | rfl | rfl
    · exact arith_comm (.inl rfl) x y
    · exact arith_comm (.inr rfl) x y
    · exact test_flip (by decide) (by decide) (fun c => by rw [Bool.eq_iff_iff]; simp [holdsB]) x y
    · exact test_flip (by decide) (by decide) (fun c => by rw [Bool.eq_iff_iff]; simp [holdsB]) x y
    · exact conn_comm 0 1 x y
    · exact conn_comm 1 0 x y
  · exact test_flip (by decide) (by decide) (fun c => by simp [holdsB]) x y
  · exact test_flip (by decide) (by decide) (fun c => by simp [holdsB]) x y
def Alike2 (p q : Val × Int) : Prop := (p.2 = 0 ↔ q.2 = 0) ∧ (p.2 = 0 → p.1 = q.1)
theorem Alike2.rfl_ (p : Val × Int) : Alike2 p p := ⟨Iff.rfl, fun _ => rfl⟩
def AlikeL : EvL → EvL → Prop
  | .ok a, .ok b => a = b
  | .bad a, .bad b => a ≠ 0 ∧ b ≠ 0
  | _, _ => False
theorem fix_eval (cols : List (List Val)) (ps : List Val) (op : Int) (v : Val) (rel col n : Int) (s : ByteArray) (l : List Ex) (h2 : commutes op = true ∨ op = 13 ∨ op = 14 → l.length = 2) : Alike2 (evalE cols ps (fixE op v rel col n s l)) (evalE cols ps (.mk op v rel col n s l)) := by
  have key : ∀ op' : Int, ((commutes op = true ∧ op' = op) ∨ (op = 13 ∧ op' = 11) ∨ (op = 14 ∧ op' = 12)) → Alike2 (evalE cols ps (.mk op' v rel col n s l.reverse)) (evalE cols ps (.mk op v rel col n s l)) := by
    intro op' h
    have hl : l.length = 2 := h2 (h.imp (fun h => h.1) fun h => h.imp (fun h => h.1) fun h => h.1)
    have h4 : 4 ≤ op ∧ 4 ≤ op' := by
      rcases h with ⟨hc, rfl⟩ | ⟨rfl, rfl⟩ | ⟨rfl, rfl⟩
      · have hc' : op' = 4 ∨ op' = 6 ∨ op' = 9 ∨ op' = 10 ∨ op' = 15 ∨ op' = 16 := by simpa [commutes, or_assoc] using hc
        omega
      · decide
      · decide
    match l, hl with
    | [a, b], _ =>
      rw [eval_op h4.1, eval_op h4.2]
      show Alike2 (match evalL cols ps [b, a] with | .ok vs => applyS op' (vs.getD 0 zeroVal) (vs.getD 1 zeroVal) | .bad e => (zeroVal, e)) _
      by_cases ea : (evalE cols ps a).2 = 0
      · by_cases eb : (evalE cols ps b).2 = 0
        · rw [evalL_ok ea, evalL_ok eb, evalL_ok ea, evalL_ok eb, evalL_nil]
          show Alike2 (applyS op' (evalE cols ps b).1 (evalE cols ps a).1) (applyS op (evalE cols ps a).1 (evalE cols ps b).1)
          rw [apply_flip h]
          exact Alike2.rfl_ _
        · rw [evalL_ok ea, evalL_bad eb, evalL_bad eb]
          exact ⟨Iff.rfl, fun e => absurd e eb⟩
      · by_cases eb : (evalE cols ps b).2 = 0
        · rw [evalL_ok eb, evalL_bad ea, evalL_bad ea]
          exact ⟨Iff.rfl, fun e => absurd e ea⟩
        · rw [evalL_bad eb, evalL_bad ea]
          exact ⟨⟨fun e => absurd e eb, fun e => absurd e ea⟩, fun e => absurd e eb⟩
  unfold fixE
  split
  · subst op; exact key 11 (.inr (.inl ⟨rfl, rfl⟩))
  · split
    · subst op; exact key 12 (.inr (.inr ⟨rfl, rfl⟩))
    · split
      · rename_i h
        rw [Bool.and_eq_true] at h
        exact key op (.inl ⟨h.1, rfl⟩)
      · exact Alike2.rfl_ _
theorem Alike2.trans_ {p q r : Val × Int} (h : Alike2 p q) (h' : Alike2 q r) : Alike2 p r := ⟨h.1.trans h'.1, fun e => (h.2 e).trans (h'.2 (h.1.1 e))⟩
theorem head_two8 {op : Int} {v : Val} {rel col n : Int} {s : ByteArray} {len : Nat} (h : headOk op v rel col n s len = true) (hc : commutes op = true ∨ op = 13 ∨ op = 14) : len = 2 := by
  have h1 : wantsOf op = (len : Int) := by unfold headOk at h; simp only [Bool.and_eq_true, beq_iff_eq] at h; exact h.1.1.1.1.1
  have hc' : op = 4 ∨ op = 6 ∨ op = 9 ∨ op = 10 ∨ op = 15 ∨ op = 16 ∨ op = 13 ∨ op = 14 := by
    rcases hc with hc | hc
    · have : op = 4 ∨ op = 6 ∨ op = 9 ∨ op = 10 ∨ op = 15 ∨ op = 16 := by simpa [commutes, or_assoc] using hc
      omega
    · omega
  unfold wantsOf at h1
  rw [if_neg (by omega), if_neg (by omega), if_neg (by omega)] at h1
  omega
mutual
theorem norm_eval (cols : List (List Val)) (ps : List Val) : ∀ x : Ex, x.okAll = true → Alike2 (evalE cols ps x.norm) (evalE cols ps x)
  | .mk op v rel col n s l, h => by
    rw [Ex.okAll, Bool.and_eq_true] at h
    have hl := normL_eval cols ps l h.2
    rw [Ex.norm]
    refine (fix_eval cols ps op v rel col n s (normL l) (fun hc => by rw [(normL_same l).1]; exact head_two8 h.1 hc)).trans_ ?_
    by_cases h1 : op = 1
    · rw [eval_one h1, eval_one h1]; exact Alike2.rfl_ _
    · by_cases h2 : op = 2 ∨ op = 3
      · rw [eval_leaf h2, eval_leaf h2]; exact Alike2.rfl_ _
      · have h4 : 4 ≤ op := by
          have := (head_shape h.1).2
          rcases this with h | h | h | h <;> omega
        rw [eval_op h4, eval_op h4]
        cases e1 : evalL cols ps (normL l) with
        | ok a =>
          cases e2 : evalL cols ps l with
          | ok b => rw [e1, e2] at hl; have hl : a = b := hl; subst hl; exact Alike2.rfl_ _
          | bad b => rw [e1, e2] at hl; exact hl.elim
        | bad a =>
          cases e2 : evalL cols ps l with
          | ok b => rw [e1, e2] at hl; exact hl.elim
          | bad b => rw [e1, e2] at hl; exact ⟨⟨fun e => absurd e hl.1, fun e => absurd e hl.2⟩, fun e => absurd e hl.1⟩
theorem normL_eval (cols : List (List Val)) (ps : List Val) : ∀ l : List Ex, okL l = true → AlikeL (evalL cols ps (normL l)) (evalL cols ps l)
  | [], _ => by rw [normL, evalL_nil]; rfl
  | x :: r, h => by
    rw [okL, Bool.and_eq_true] at h
    have hx := norm_eval cols ps x h.1
    have hr := normL_eval cols ps r h.2
    rw [normL]
    by_cases e : (evalE cols ps x).2 = 0
    · rw [evalL_ok e, evalL_ok (hx.1.2 e), hx.2 (hx.1.2 e)]
      cases e1 : evalL cols ps (normL r) with
      | ok a =>
        cases e2 : evalL cols ps r with
        | ok b => rw [e1, e2] at hr; have hr : a = b := hr; subst hr; rfl
        | bad b => rw [e1, e2] at hr; exact hr.elim
      | bad a =>
        cases e2 : evalL cols ps r with
        | ok b => rw [e1, e2] at hr; exact hr.elim
        | bad b => rw [e1, e2] at hr; exact hr
    · have e' : (evalE cols ps x.norm).2 ≠ 0 := fun h => e (hx.1.1 h)
      rw [evalL_bad e, evalL_bad e']
      exact ⟨e', e⟩
end
theorem thereL_rev (cols : List (List Val)) (ps : List Val) : ∀ l : List Ex, thereL cols ps l = l.all (thereE cols ps)
  | [] => by rw [thereL]; rfl
  | x :: r => by rw [thereL, thereL_rev cols ps r]; rfl
theorem fix_there (cols : List (List Val)) (ps : List Val) (op : Int) (v : Val) (rel col n : Int) (s : ByteArray) (l : List Ex) : thereE cols ps (fixE op v rel col n s l) = thereE cols ps (.mk op v rel col n s l) := by
  have hr : thereL cols ps l.reverse = thereL cols ps l := by rw [thereL_rev, thereL_rev, List.all_reverse]
  unfold fixE
  split
  · subst op; rw [there_other (by decide) (by decide), there_other (by decide) (by decide), hr]
  · split
    · subst op; rw [there_other (by decide) (by decide), there_other (by decide) (by decide), hr]
    · split
      · rw [thereE, thereE, hr]
      · rfl
mutual
theorem norm_there (cols : List (List Val)) (ps : List Val) : ∀ x : Ex, thereE cols ps x.norm = thereE cols ps x
  | .mk op v rel col n s l => by rw [Ex.norm, fix_there, thereE, thereE, normL_there cols ps l]
theorem normL_there (cols : List (List Val)) (ps : List Val) : ∀ l : List Ex, thereL cols ps (normL l) = thereL cols ps l
  | [] => by rw [normL]
  | x :: r => by rw [normL, thereL, thereL, norm_there cols ps x, normL_there cols ps r]
end
theorem norm_evalR (cols : List (List Val)) (ps : List Val) (x : Ex) (hr : rightE x = true) : Alike2 (evalR cols ps x.norm) (evalR cols ps x) := by
  unfold evalR
  rw [norm_right, norm_there]
  split
  · exact norm_eval cols ps x (right_iff8.1 hr).1
  · exact Alike2.rfl_ _
open Go.RowKit Go.Maps Go.ChangeShapes Go.Deep Go.Shelf
set_option maxRecDepth 100000
set_option maxHeartbeats 8000000 in
theorem signValues_any (x : Ex) (cs : List Value) (w : World) (cv pv : Value) (cols : List (List Val)) (ps : List Val) (hx : ExM w x cs) (hM : VM w cv pv cols ps) (hRV : RV cols ps) (hG : GE w) :
    Calls Tryz.prog 3 #[.agg cs.toArray, cv, pv] w fun e w' => e = .returned (.bool true) ∧ Below w.heap.size w w' := by
  have HX := Lib.hid hx
  have HM := Lib.hid hM
  have HG := Lib.hid hG
  have HRV := Lib.hid hRV
  obtain ⟨op, v, rel, col, n, s, l⟩ := x
  rw [ExM.iff] at hx
  obtain ⟨-, qe, ce, rfl, -, -⟩ := hx
  obtain ⟨X, hX⟩ : ∃ X, X = Ex.mk op v rel col n s l := ⟨_, rfl⟩
  rw [← hX] at HX
  obtain ⟨⟨cq, cc, rfl, hcc, hcm, -⟩, pq, pc, rfl, hpc, hpm, -⟩ := hM
  obtain ⟨le, hle⟩ : ∃ k, k = l.length := ⟨_, rfl⟩
  rw [← hle] at HX ⊢
  obtain ⟨cl, hcl⟩ : ∃ k, k = cols.length := ⟨_, rfl⟩
  obtain ⟨pl, hpl⟩ : ∃ k, k = ps.length := ⟨_, rfl⟩
  rw [← hcl, ← hpl] at HM ⊢
  clear hX hle hG hRV hcl hpl hcc hcm hpc hpm
  obtain ⟨W, e0, K0, b0, -⟩ := new_block w (exCells op v rel col n s qe le ce) 26 _ rfl
  have HE := Lib.hid e0
  have HB := Lib.hid b0
  have HK := Lib.hid K0
  clear e0 b0 K0
  go_enter Tryz.func3, Tryz.ntmps3
  go_upto_region 1 with fail
  change Code.wp _ _ _ _ (w.alloc (.cells (exCells op v rel col n s qe le ce).toArray 26))
  rw [HE.out]
  clear HE
  obtain ⟨g, hg⟩ : ∃ g, g = w.heap.size := ⟨_, rfl⟩
  rw [← hg] at HK ⊢
  clear hg
  go_wp2_with fail
  refine (examples12_any W (HG.out.on HB.out)).mono ?_
  rintro e Y ⟨rfl, hy⟩
  have HY := Lib.hid (HB.out.trans (hy.mono HB.out.size))
  have HKY := Lib.hid (HK.out.on hy)
  have lt := HKY.out.lt
  have c0 := HKY.out.c 0 _ rfl
  have c1 := HKY.out.c 1 _ rfl
  have c2 := HKY.out.c 2 _ rfl
  have c3 := HKY.out.c 3 _ rfl
  have c4 := HKY.out.c 4 _ rfl
  have c5 := HKY.out.c 5 _ rfl
  have c6 := HKY.out.c 6 _ rfl
  have c7 := HKY.out.c 7 _ rfl
  have c8 := HKY.out.c 8 _ rfl
  clear hy HB HK
  go_wp2_with fail
  refine (dnormal_any X _ Y (ExM.ext HY.out _ _ HX.out) (HG.out.on HY.out)).mono ?_
  rintro e Z ⟨⟨r, rfl, hr⟩, hz⟩
  have HZ := Lib.hid (HY.out.trans (hz.mono HY.out.size))
  have HKZ := Lib.hid (HKY.out.on hz)
  have HRA := Lib.hid (ExMP.toM _ _ hr)
  clear c0 c1 c2 c3 c4 c5 c6 c7 c8 lt hz hr HKY HY
  cases hri : rightE X with
  | false =>
    rw [show errR X = 1 by unfold errR; rw [hri]; rfl]
    clear hri HRA
    go_wp2_with fail
    refine bodyPost_ret (v := .bool true) (by simp [results, Tryz.results3, go_sem]) rfl ⟨rfl, ext_alloc HZ.out (.cells r.cells.toArray 26)⟩
  | true =>
    rw [show errR X = 0 by unfold errR; rw [hri]; rfl]
    rw [show normR X = X.norm by unfold normR; rw [hri]; rfl] at HRA
    have HNE := Lib.hid (norm_evalR cols ps X hri)
    have HRI := Lib.hid hri
    clear hri
    have lt := HKZ.out.lt
    have c0 := HKZ.out.c 0 _ rfl
    have c1 := HKZ.out.c 1 _ rfl
    have c2 := HKZ.out.c 2 _ rfl
    have c3 := HKZ.out.c 3 _ rfl
    have c4 := HKZ.out.c 4 _ rfl
    have c5 := HKZ.out.c 5 _ rfl
    have c6 := HKZ.out.c 6 _ rfl
    have c7 := HKZ.out.c 7 _ rfl
    have c8 := HKZ.out.c 8 _ rfl
    go_wp2_with fail
    obtain ⟨V, e0, K0, b0, -⟩ := new_block Z r.cells 26 _ rfl
    refine calls_world (W' := V) ?_ (by rw [← e0])
    have HV := Lib.hid (HZ.out.trans (b0.mono HZ.out.size))
    have HRA := Lib.hid (ExM.ext b0 _ _ HRA.out)
    have HKA := Lib.hid K0
    have HKE := Lib.hid (HKZ.out.on b0)
    obtain ⟨ga, hga⟩ : ∃ g, g = Z.heap.size := ⟨_, rfl⟩
    rw [← hga] at HKA ⊢
    clear e0 b0 K0 hga HKZ lt c0 c1 c2 c3 c4 c5 c6 c7 c8 HZ
    refine (deval_any X _ V _ _ cols ps (ExM.ext HV.out _ _ HX.out) (HM.out.on HV.out) HRV.out (HG.out.on HV.out)).mono ?_
    rintro e U ⟨he, hu⟩
    obtain ⟨z1, hz1⟩ : ∃ z, z = evalR cols ps X := ⟨_, rfl⟩
    rw [← hz1] at he HNE
    clear hz1
    obtain ⟨⟨ak, an, as_⟩, ae⟩ := z1
    simp only at he
    subst he
    have HU := Lib.hid (HV.out.trans (hu.mono HV.out.size))
    have HKA := Lib.hid (HKA.out.on hu)
    have HKE := Lib.hid (HKE.out.on hu)
    have HRA := Lib.hid (ExM.ext hu _ _ HRA.out)
    clear hu HV
    have lt := HKA.out.lt
    have c0 := HKA.out.c 0 _ rfl
    have c1 := HKA.out.c 1 _ rfl
    have c2 := HKA.out.c 2 _ rfl
    have c3 := HKA.out.c 3 _ rfl
    have c4 := HKA.out.c 4 _ rfl
    have c5 := HKA.out.c 5 _ rfl
    have c6 := HKA.out.c 6 _ rfl
    have c7 := HKA.out.c 7 _ rfl
    have c8 := HKA.out.c 8 _ rfl
    go_wp2_with fail
    obtain ⟨U2, e0, K0, b0, -⟩ := new_block U [.int .i64 ak, .int .i64 an, .string as_] 23 _ rfl
    refine calls_world (W' := U2) ?_ (by rw [← e0])
    have HU2 := Lib.hid (HU.out.trans (b0.mono HU.out.size))
    have HRA := Lib.hid (ExM.ext b0 _ _ HRA.out)
    have HKA := Lib.hid (HKA.out.on b0)
    have HKE := Lib.hid (HKE.out.on b0)
    have HKV := Lib.hid K0
    obtain ⟨gv, hgv⟩ : ∃ g, g = U.heap.size := ⟨_, rfl⟩
    rw [← hgv] at HKV ⊢
    clear e0 b0 K0 hgv lt c0 c1 c2 c3 c4 c5 c6 c7 c8 HU
    refine (deval_any X.norm _ U2 _ _ cols ps HRA.out (HM.out.on HU2.out) HRV.out (HG.out.on HU2.out)).mono ?_
    rintro e S ⟨he, hs⟩
    obtain ⟨z1, hz1⟩ : ∃ z, z = evalR cols ps X.norm := ⟨_, rfl⟩
    rw [← hz1] at he HNE
    clear hz1
    obtain ⟨⟨bk, bn, bs⟩, be⟩ := z1
    simp only at he
    subst he
    have HS := Lib.hid (HU2.out.trans (hs.mono HU2.out.size))
    have HKA := Lib.hid (HKA.out.on hs)
    have HKE := Lib.hid (HKE.out.on hs)
    have HKV := Lib.hid (HKV.out.on hs)
    have HRA := Lib.hid (ExM.ext hs _ _ HRA.out)
    clear hs HU2
    obtain ⟨V, e0, K0, b0, -⟩ := new_block S [.int .i64 bk, .int .i64 bn, .string bs] 23 _ rfl
    have HV := Lib.hid (HS.out.trans (b0.mono HS.out.size))
    have HRA := Lib.hid (ExM.ext b0 _ _ HRA.out)
    have HKA := Lib.hid (HKA.out.on b0)
    have HKE := Lib.hid (HKE.out.on b0)
    have HKV := Lib.hid (HKV.out.on b0)
    have HKW := Lib.hid K0
    have HE0 := Lib.hid e0
    obtain ⟨gw, hgw⟩ : ∃ g, g = S.heap.size := ⟨_, rfl⟩
    rw [← hgw] at HKW
    have HGW := Lib.hid hgw
    clear e0 b0 K0 hgw
    go_upto_region 7 with fail
    change Code.wp _ _ _ _ (S.alloc (.cells ([.int .i64 bk, .int .i64 bn, .string bs] : List Value).toArray 23))
    rw [HE0.out, ← HGW.out]
    clear HE0 HGW HS
    obtain ⟨K, hK⟩ : ∃ K, K = tablesE X := ⟨_, rfl⟩
    obtain ⟨B, hB⟩ : ∃ B, B = (rightE X && X.safe) := ⟨_, rfl⟩
    have CTE := Lib.hid (fun (x : After V) => calls_after (dtables_any X _ x.W (ExM.ext (HV.out.trans (x.below.mono HV.out.size)) _ _ HX.out) ((HG.out.on HV.out).on x.below)))
    have CTA := Lib.hid (fun (x : After V) => calls_after (dtables_any X.norm _ x.W (ExM.ext x.below _ _ HRA.out) ((HG.out.on HV.out).on x.below)))
    have CSE := Lib.hid (fun (x : After V) => calls_after (dsafe_any X _ x.W (ExM.ext (HV.out.trans (x.below.mono HV.out.size)) _ _ HX.out) ((HG.out.on HV.out).on x.below)))
    have CSA := Lib.hid (fun (x : After V) => calls_after (dsafe_any X.norm _ x.W (ExM.ext x.below _ _ HRA.out) ((HG.out.on HV.out).on x.below)))
    rw [show tablesE X.norm = tablesE X by unfold tablesE; rw [norm_right, (norm_same X).2.2.2.1], ← hK] at CTA
    rw [← hK] at CTE
    rw [norm_right, (norm_same X).2.2.2.2, ← hB] at CSA
    rw [← hB] at CSE
    clear hK hB
    have ra0 := fun (x : After V) => (x.cell ga 0 HKA.out.lt).trans (HKA.out.c 0 _ rfl)
    have ra1 := fun (x : After V) => (x.cell ga 1 HKA.out.lt).trans (HKA.out.c 1 _ rfl)
    have ra2 := fun (x : After V) => (x.cell ga 2 HKA.out.lt).trans (HKA.out.c 2 _ rfl)
    have ra3 := fun (x : After V) => (x.cell ga 3 HKA.out.lt).trans (HKA.out.c 3 _ rfl)
    have ra4 := fun (x : After V) => (x.cell ga 4 HKA.out.lt).trans (HKA.out.c 4 _ rfl)
    have ra5 := fun (x : After V) => (x.cell ga 5 HKA.out.lt).trans (HKA.out.c 5 _ rfl)
    have ra6 := fun (x : After V) => (x.cell ga 6 HKA.out.lt).trans (HKA.out.c 6 _ rfl)
    have ra7 := fun (x : After V) => (x.cell ga 7 HKA.out.lt).trans (HKA.out.c 7 _ rfl)
    have ra8 := fun (x : After V) => (x.cell ga 8 HKA.out.lt).trans (HKA.out.c 8 _ rfl)
    have re0 := fun (x : After V) => (x.cell g 0 HKE.out.lt).trans (HKE.out.c 0 _ rfl)
    have re1 := fun (x : After V) => (x.cell g 1 HKE.out.lt).trans (HKE.out.c 1 _ rfl)
    have re2 := fun (x : After V) => (x.cell g 2 HKE.out.lt).trans (HKE.out.c 2 _ rfl)
    have re3 := fun (x : After V) => (x.cell g 3 HKE.out.lt).trans (HKE.out.c 3 _ rfl)
    have re4 := fun (x : After V) => (x.cell g 4 HKE.out.lt).trans (HKE.out.c 4 _ rfl)
    have re5 := fun (x : After V) => (x.cell g 5 HKE.out.lt).trans (HKE.out.c 5 _ rfl)
    have re6 := fun (x : After V) => (x.cell g 6 HKE.out.lt).trans (HKE.out.c 6 _ rfl)
    have re7 := fun (x : After V) => (x.cell g 7 HKE.out.lt).trans (HKE.out.c 7 _ rfl)
    have re8 := fun (x : After V) => (x.cell g 8 HKE.out.lt).trans (HKE.out.c 8 _ rfl)
    have is := After.some V
    have hvw : be = 0 → bk = ak ∧ bn = an ∧ bs = as_ := fun h => by
      have := HNE.out.2 h
      simpa using this
    have hzz : be = 0 ↔ ae = 0 := HNE.out.1
    by_cases hb : be = 0
    · obtain ⟨rfl, rfl, rfl⟩ := hvw hb
      have ha := hzz.1 hb
      subst ha hb
      have heq : ∀ w, (binOp .eql 23 (.agg #[.int .i64 bk, .int .i64 bn, .string bs]) (.agg #[.int .i64 bk, .int .i64 bn, .string bs])).run Tryz.prog w = .ok (.bool true) w := fun w => (Tryz.eqlVal ⟨bk, bn, bs⟩ ⟨bk, bn, bs⟩ w).trans (by simp)
      have rv0 := fun (x : After V) => (x.cell gv 0 HKV.out.lt).trans (HKV.out.c 0 _ rfl)
      have rv1 := fun (x : After V) => (x.cell gv 1 HKV.out.lt).trans (HKV.out.c 1 _ rfl)
      have rv2 := fun (x : After V) => (x.cell gv 2 HKV.out.lt).trans (HKV.out.c 2 _ rfl)
      have rw0 := fun (x : After V) => (x.cell gw 0 HKW.out.lt).trans (HKW.out.c 0 _ rfl)
      have rw1 := fun (x : After V) => (x.cell gw 1 HKW.out.lt).trans (HKW.out.c 1 _ rfl)
      have rw2 := fun (x : After V) => (x.cell gw 2 HKW.out.lt).trans (HKW.out.c 2 _ rfl)
      clear hvw hzz HKA HKE HKV HKW
      refine wp_region_after (by kernel_rfl) (by kernel_rfl) ?_
      repeat (go_big_quiet_step (first | (go_at_call 7; first | with_reducible exact CTA.out _ | with_reducible exact CTE.out _) | (go_at_call 8; first | with_reducible exact CSA.out _ | with_reducible exact CSE.out _)))
      refine wpQuiet_nil ?_
      intro Wq hw
      obtain ⟨⟨Wq, hbq⟩, rfl⟩ := hw
      go_wp2_with fail
      refine bodyPost_ret (v := .bool true) (by simp [results, Tryz.results3, go_sem]) rfl ⟨rfl, HV.out.trans (hbq.mono HV.out.size)⟩
    · have ha : ¬ ae = 0 := fun h => hb (hzz.2 h)
      have ha2 : (ae == 0) = false := beq_eq_false_iff_ne.2 ha
      have hb2 : (be == 0) = false := beq_eq_false_iff_ne.2 hb
      have ha3 : (ae != 0) = true := by rw [bne, ha2]; rfl
      clear hvw hzz HKA HKE HKV HKW
      refine wp_region_after (by kernel_rfl) (by kernel_rfl) ?_
      repeat (go_big_quiet_step (first | (go_at_call 7; first | with_reducible exact CTA.out _ | with_reducible exact CTE.out _) | (go_at_call 8; first | with_reducible exact CSA.out _ | with_reducible exact CSE.out _)))
      refine wpQuiet_nil ?_
      intro Wq hw
      obtain ⟨⟨Wq, hbq⟩, rfl⟩ := hw
      go_wp2_with fail
      refine bodyPost_ret (v := .bool true) (by simp [results, Tryz.results3, go_sem]) rfl ⟨rfl, HV.out.trans (hbq.mono HV.out.size)⟩
open Go.ChangeShapes Go.WideShapes Go.ChangeAt Go.RowKit Go.Joins
set_option maxRecDepth 100000
noncomputable abbrev laidVars : List (String × DataW Unit) := Rows.signValuesRow.laid
theorem wit_shaped (os : Os) (args : Array Value) : ((World.laidAll Tryz.prog os laidVars).forCall (fun _ _ => 0) ⟨#[], args, []⟩).Shaped Tryz.prog := World.shaped_of_ZipB (by kernel_rfl) (by kernel_rfl)
theorem wit_met (os : Os) (args : Array Value) : laidMetH Tryz.prog laidVars ((World.laidAll Tryz.prog os laidVars).forCall (fun _ _ => 0) ⟨#[], args, []⟩).memory := by
  rw [MakeChecks.laidMetH_plain _ _ _ (by kernel_rfl)]
  exact laidMet_laidAll _ (by kernel_rfl) (by kernel_rfl)
theorem var_lt {W : World} {n : String} {d : DataW Unit} {g : Nat} (h : Lib.VarReads Tryz.prog W n d) (hg : Tryz.prog.globalNamed n = some g) : g < W.heap.size := by
  obtain ⟨g', t, cs, fuel, p, hg', ht, hv, hd⟩ := h
  obtain rfl := Option.some.inj (hg.symm.trans hg')
  unfold World.var? at hv
  simp only [hg, Option.bind_some] at hv
  rcases Nat.lt_or_ge g W.heap.size with h | h
  · exact h
  · simp [Array.getElem?_eq_none h] at hv
theorem GE.of_laid {W : World} (hL : laidMetH Tryz.prog laidVars W) : GE W := by
  rw [MakeChecks.laidMetH_plain _ _ _ (by kernel_rfl)] at hL
  have h1 : Lib.VarReads Tryz.prog W "math/bits.deBruijn64tab" Rows.laid_math_bits_deBruijn64tab := Lib.laidMet.reads hL (List.mem_of_getElem? (i := 1) rfl)
  have hlt := var_lt h1 (g := 3) (by kernel_rfl)
  exact GE.of_reads (by omega) (Lib.laidMet.reads hL (List.mem_of_getElem? (i := 3) rfl)) (Lib.laidMet.reads hL (List.mem_of_getElem? (i := 2) rfl))
open Go.ChangeShapes Go.WideShapes Go.ChangeAt Go.RowKit Go.Joins Go.Deep
set_option maxRecDepth 100000
theorem ExL.of {w : World} {q : Option Addr} : ∀ {l : List Ex} {i : Nat}, (∀ (j : Nat) (x : Ex), l[j]? = some x → ∃ g off cs, q = some ⟨g, off, none⟩ ∧ g < w.heap.size ∧ ExM w x cs ∧ ∀ (k : Nat) u, cs[k]? = some u → w.cell? ⟨g, off + (i + j) * 9 + k, none⟩ = some u) → ExL w q i l
  | [], i, _ => by rw [ExL]; trivial
  | x :: r, i, h => by
    rw [ExL]
    refine ⟨?_, ExL.of fun j y hy => ?_⟩
    · obtain ⟨g, off, cs, h1, h2, h3, h4⟩ := h 0 x rfl
      exact ⟨g, off, cs, h1, h2, h3, fun k u hu => h4 k u hu⟩
    · obtain ⟨g, off, cs, h1, h2, h3, h4⟩ := h (j + 1) y (by simpa using hy)
      refine ⟨g, off, cs, h1, h2, h3, fun k u hu => ?_⟩
      rw [show i + 1 + j = i + (j + 1) by omega]
      exact h4 k u hu
instance : Inhabited Ex := ⟨.mk 0 zeroVal 0 0 0 ⟨#[]⟩ []⟩
theorem Tryz.cellsExpr : Tryz.prog.cellsOf 26 = 9 := by kernel_rfl
section
variable {H : Type} {enc : TypeId × Value → H}
theorem size_in {l m : List (DataW H)} {d : DataW H} (h : d ∈ l) : SizeOf.sizeOf d < SizeOf.sizeOf (DataW.slice l m) := by
  have := List.sizeOf_lt_of_mem h
  simp only [DataW.slice.sizeOf_spec]
  omega
theorem size_agg {l : List (DataW H)} {d : DataW H} (h : d ∈ l) : SizeOf.sizeOf d < SizeOf.sizeOf (DataW.agg l) := by
  have := List.sizeOf_lt_of_mem h
  simp only [DataW.agg.sizeOf_spec]
  omega
theorem open_expr : ∀ (N : Nat) {W : World} {base n : Nat} {spare : Nat → Bool} {held : Bool} {cs : List Value} {y : DataW H × List MemPlace}, SizeOf.sizeOf y.1 < N → DataW.trod enc Tryz.prog W base spare held n 26 cs = some y → ∃ x : Ex, ExM W x cs ∧ cs.length = 9
  | 0, _, _, _, _, _, _, _, h, _ => absurd h (by omega)
  | N + 1, W, base, n, spare, held, cs, y, hN, h => by
    obtain ⟨xs, n', _, rfl, hl, hlen, hf⟩ := DataW.trod_struct Tryz.underlying26 h
    rw [Tryz.cellsExpr] at hl
    match xs, hlen, cs, hl with
    | [y0, y1, y2, y3, y4, y5, y6], _, [v0, v1, v2, v3, v4, v5, v6, v7, v8], _ =>
      have h0 := hf 0 _ rfl
      have h1 := hf 1 _ rfl
      have h2 := hf 2 _ rfl
      have h3 := hf 3 _ rfl
      have h4 := hf 4 _ rfl
      have h5 := hf 5 _ rfl
      have h6 := hf 6 _ rfl
      clear hf h
      simp only [List.getElem?_cons_zero, List.getElem?_cons_succ] at h0 h1 h2 h3 h4 h5 h6
      obtain ⟨op, e0, _, _⟩ := DataW.trod_int Tryz.underlying3 h0
      obtain ⟨v, e1, r1, r2, r3⟩ := cells_val h1
      obtain ⟨rel, e2, _, _⟩ := DataW.trod_int Tryz.underlying3 h2
      obtain ⟨col, e3, _, _⟩ := DataW.trod_int Tryz.underlying3 h3
      obtain ⟨nn, e4, _, _⟩ := DataW.trod_int Tryz.underlying3 h4
      obtain ⟨s, e5, _, _⟩ := DataW.trod_string Tryz.underlying9 h5
      have hN6 : SizeOf.sizeOf y6.1 < N := by
        have h := size_agg (H := H) (l := [y0, y1, y2, y3, y4, y5, y6].map (·.1)) (d := y6.1) (by simp)
        have hN' : SizeOf.sizeOf (DataW.agg ([y0, y1, y2, y3, y4, y5, y6].map (·.1))) < N + 1 := hN
        omega
      clear hN
      simp [Tryz.cellsInt, Tryz.cellsStr, Tryz.cellsVal] at e0 e1 e2 e3 e4 e5
      obtain ⟨rfl, rfl, rfl⟩ := e1
      subst e0 e2 e3 e4 e5
      have hS : Tryz.prog.cellsOf 24 = 1 := by kernel_rfl
      rcases open_slice Tryz.underlying24 h6 with ⟨hc, _⟩ | ⟨a, len, cap, m, n2, D, Pl, hc, hb, hl2, hm, hmm, hx, hi⟩
      · simp [hS] at hc
        subst hc
        exact ⟨.mk op v rel col nn s [], ExM.iff.2 ⟨⟨r1, r2, r3⟩, none, 0, rfl, Nat.le_refl _, by rw [ExL]; trivial⟩, rfl⟩
      · simp [hS] at hc
        subst hc
        have hlm : len ≤ m := by rw [hmm]; split <;> omega
        rw [Tryz.cellsExpr] at hi
        have each : ∀ i, i < len → ∃ x : Ex, ∃ cs', (∀ k, k < 9 → W.cell? (a.add (i * 9 + k)) = cs'[k]?) ∧ cs'.length = 9 ∧ ExM W x cs' := by
          intro i hil
          obtain ⟨cs', hcs, htr⟩ := hi i (by omega)
          obtain ⟨_, hlen, hat⟩ := World.cells?_some hcs
          obtain ⟨x, hx2, _⟩ := open_expr N (y := (D i, Pl i)) (by
            have h := size_in (H := H) (l := (List.range len).map D) (m := (List.range (m - len)).map fun j => D (len + j)) (d := D i) (List.mem_map.2 ⟨i, List.mem_range.2 hil, rfl⟩)
            rw [hx] at hN6
            have hN7 : SizeOf.sizeOf (DataW.slice ((List.range len).map D) ((List.range (m - len)).map fun j => D (len + j))) < N := hN6
            show SizeOf.sizeOf (D i) < N
            omega) htr
          exact ⟨x, cs', fun k hk => by have h1 := hat k hk; rw [add_add] at h1; exact h1, hlen, hx2⟩
        have haddr : 0 < len → a = ⟨a.block, a.off, none⟩ ∧ a.block < W.heap.size := by
          intro hl0
          obtain ⟨_, cs', hk, hlen, _⟩ := each 0 hl0
          have h1 := hk 0 (by omega)
          rw [Nat.zero_mul, Nat.zero_add, Addr.add, if_pos rfl, List.getElem?_eq_getElem (by omega)] at h1
          exact addr_here h1
        obtain ⟨T, hT⟩ := choose_lt each
        have hlen : ((List.range len).map T).length = len := by simp
        refine ⟨.mk op v rel col nn s ((List.range len).map T), ExM.iff.2 ⟨⟨r1, r2, r3⟩, some a, cap, by rw [hlen], by rw [hlen]; exact hl2, ExL.of fun j x hx => ?_⟩, rfl⟩
        have hj : j < len := by
          rcases Nat.lt_or_ge j len with h | h
          · exact h
          · rw [List.getElem?_eq_none (by rw [hlen]; exact h)] at hx; cases hx
        have hTx : T j = x := by simpa [hj] using hx
        obtain ⟨cs', hk, hl9, hx9⟩ := hT j hj
        rw [hTx] at hx9
        obtain ⟨ha, hlt⟩ := haddr (by omega)
        refine ⟨a.block, a.off, cs', by rw [← ha], hlt, hx9, fun k u hu => ?_⟩
        have hk9 : k < 9 := by
          rcases Nat.lt_or_ge k 9 with h | h
          · exact h
          · rw [List.getElem?_eq_none (by omega)] at hu; cases hu
        have h1 := hk k hk9
        rw [hu, ha, addr_off] at h1
        rw [Nat.zero_add, Nat.add_assoc]
        exact h1
theorem open_ex {r : Reach} {b0 base : Nat} {W : World} {spare : Nat → Bool} {held : Bool} {v : Value} {d : DataW H} {p : List MemPlace} (hv : Value.okWide Tryz.prog W r b0 26 v) (h : DataW.Trod enc Tryz.prog W base spare held 26 v d p) :
    ∃ (x : Ex) (cs : List Value), v = .agg cs.toArray ∧ ExM W x cs := by
  obtain ⟨cs, rfl, _⟩ := okWide_struct Tryz.underlying26 hv
  obtain ⟨fuel, hf⟩ := h
  obtain ⟨x, hx, _⟩ := open_expr _ (Nat.lt_succ_self _) hf
  exact ⟨x, cs.toList, by simp, hx⟩
end
open Go.ChangeShapes Go.WideShapes Go.ChangeAt Go.RowKit Go.Joins Go.Deep
set_option maxRecDepth 100000
section
variable {H : Type} {enc : TypeId × Value → H}
end
open Go.ChangeShapes Go.WideShapes Go.ChangeAt Go.RowKit Go.Joins Go.Deep
set_option maxRecDepth 100000
section
variable {H : Type} {enc : TypeId × Value → H}
theorem open_valsC {W : World} {base fuel : Nat} {spare : Nat → Bool} {held : Bool} {cs : List Value} {y : DataW H × List MemPlace} (hf : DataW.trod enc Tryz.prog W base spare held fuel 28 cs = some y) (hz : ∀ n ∈ y.1.weights Tryz.prog 28, n ≤ reachBytes) :
    ∃ (q : Option Addr) (l : List Val) (c : Nat), cs = [.slice q l.length c] ∧ l.length ≤ c ∧ c ≤ 9223372036854775807 ∧ ValsA W 0 W.heap.size q l ∧ ∀ x ∈ l, okVal x := by
  obtain ⟨q, l, c, h1, h2, h3, _, h5, h6⟩ := open_arr Tryz.underlying28 Tryz.cellsVal (by omega) (valC W) okVal hf hz (fun cs y n htr _ g o hk => by
    obtain ⟨x, rfl, e1, e2, e3⟩ := cells_val htr
    exact ⟨x, ⟨hk 0 _ (by omega) rfl, hk 1 _ (by omega) rfl, hk 2 _ (by omega) rfl⟩, e1, e2, e3⟩)
  exact ⟨q, l, c, h1, h2, h3, h5, h6⟩
theorem open_row8 {W : World} {spare : Nat → Bool} {held : Bool} {r : Reach} {b0 base : Nat} {v : Value} {d : DataW H} {p : List MemPlace} (hv : Value.okWide Tryz.prog W r b0 28 v) (h : DataW.Trod enc Tryz.prog W base spare held 28 v d p) (hz : ∀ n ∈ d.weights Tryz.prog 28, n ≤ reachBytes) :
    ∃ (q : Option Addr) (l : List Val) (c : Nat), v = .slice q l.length c ∧ l.length ≤ c ∧ c ≤ 9223372036854775807 ∧ ValsA W 0 W.heap.size q l ∧ ∀ x ∈ l, okVal x := by
  obtain ⟨a0, len, cap, rfl⟩ := okWide_slice Tryz.underlying28 hv
  obtain ⟨fuel, hf⟩ := h
  obtain ⟨q, l, c, h1, h2, h3, h5, h6⟩ := open_valsC hf hz
  simp [Value.cells] at h1
  obtain ⟨rfl, rfl, rfl⟩ := h1
  exact ⟨_, l, _, rfl, h2, h3, h5, h6⟩
theorem open_rows8 {W : World} {spare : Nat → Bool} {held : Bool} {r : Reach} {b0 base : Nat} {v : Value} {d : DataW H} {p : List MemPlace} (hv : Value.okWide Tryz.prog W r b0 27 v) (h : DataW.Trod enc Tryz.prog W base spare held 27 v d p) (hz : ∀ n ∈ d.weights Tryz.prog 27, n ≤ reachBytes) :
    ∃ (q : Option Addr) (l : List (List Val)) (c : Nat), v = .slice q l.length c ∧ l.length ≤ c ∧ c ≤ 9223372036854775807 ∧ RowsA W 0 W.heap.size q l ∧ ∀ r ∈ l, ∀ x ∈ r, okVal x := by
  have hC : Tryz.prog.cellsOf 28 = 1 := by kernel_rfl
  obtain ⟨a0, len, cap, rfl⟩ := okWide_slice Tryz.underlying27 hv
  obtain ⟨fuel, hf⟩ := h
  obtain ⟨q, l, c, h1, h2, h3, _, h5, h6⟩ := open_arr Tryz.underlying27 hC (by omega) (rowC W 0 W.heap.size) (fun r => ∀ x ∈ r, okVal x) hf hz (fun cs y n htr hw g o hk => by
    obtain ⟨q, l, c, rfl, a, b, d, e⟩ := open_valsC htr hw
    exact ⟨l, ⟨q, c, hk 0 _ (by omega) rfl, a, b, d⟩, e⟩)
  simp [Value.cells] at h1
  obtain ⟨rfl, rfl, rfl⟩ := h1
  exact ⟨_, l, _, rfl, h2, h3, h5, h6⟩
end
end Go.Proofs.YtklgoajgchfmeaaGreatDoor
