/- A part of the proof. -/
import Derived.Test.YtklgoajgchfmeaaDoorKp
set_option linter.unusedVariables false
set_option linter.unusedSimpArgs false
namespace Go.Proofs.YtklgoajgchfmeaaDoor
open Go.RowKit Go.Deep
set_option maxRecDepth 100000
set_option maxHeartbeats 4000000 in
theorem rprint_leaf (op : Int) (v : Val) (rel col n : Int) (s : ByteArray) (q : Option Addr) (c : Nat) (w : World) (hh : headOk op v rel col n s 0 = true) (hv : inR v.n = true) :
    Calls Tryd.prog 9 #[.agg (exCells op v rel col n s q 0 c).toArray] w fun e w' => e = .returned (.string (bsB (Ex.mk op v rel col n s []).print)) ∧ Below w.heap.size w w' := by
  have HH := Lib.hid hh
  have HV := Lib.hid hv
  have hs := (head_shape hh).2
  clear hh hv
  have E0 := EB.new w op v rel col n s q 0 c 26
  have B0 : Below w.heap.size w (w.alloc (.cells (exCells op v rel col n s q 0 c).toArray 26)) := ext_alloc (ext_refl _) _
  obtain ⟨W, hW⟩ : ∃ W, W = w.alloc (.cells (exCells op v rel col n s q 0 c).toArray 26) := ⟨_, rfl⟩
  rw [← hW] at E0 B0
  go_enter Tryd.func9, Tryd.ntmps9
  go_upto_region 1 with fail
  rw [← hW]
  clear hW
  obtain ⟨g, hg⟩ : ∃ g, g = w.heap.size := ⟨_, rfl⟩
  have HB := Lib.hid B0
  have HGW := Lib.hid hg
  rw [← hg] at E0
  rw [← hg]
  clear B0 hg
  have HE := Lib.hid E0
  obtain ⟨lt, c0, c1, c2, c3, c4, c5, c6, c7, c8⟩ := E0
  rcases hs with ⟨rfl, -, -, -, -, hr⟩ | ⟨rfl, -, -, -⟩ | ⟨rfl, -, -, -, -⟩ | ⟨h4, -, -, -, -, -, hw⟩
  · obtain ⟨k, m, t⟩ := v
    have HS := Lib.hid (size_inR hr)
    have hs := right_shape hr
    have hv := HV.out
    clear hr
    simp only at hs hv c1 c2 c3
    have i1 := (inR_iff.1 hv).1
    have i2 := (inR_iff.1 hv).2
    rcases hs with ⟨rfl, -, -⟩ | ⟨rfl, -⟩ | ⟨rfl, -⟩ | ⟨rfl, -⟩
    · go_wp2_with fail
      refine bodyPost_ret (v := .string ⟨#[78]⟩) (by simp [results, Tryd.results9, go_sem]) rfl ⟨by rw [print_leaf1]; rfl, HB.out⟩
    · have HP := Lib.hid (show (Ex.mk 1 ⟨1, m, t⟩ rel col n s []).print = 73 :: Lib.itoa m by rw [print_leaf1]; unfold printV; simp)
      have HI := Lib.hid (fun w => digits_any m i1 i2 w)
      have hl := dgs_le m hv
      obtain ⟨D, hD⟩ : ∃ D, D = dgs m := ⟨_, rfl⟩
      rw [← hD] at hl HI
      have g0 : ¬ 9223372036854775807 < 1 + D.size := by omega
      have HQ := Lib.hid (show (⟨#[73]⟩ : ByteArray) ++ D = bsB (73 :: Lib.itoa m) by rw [hD]; exact cat2 73 m)
      clear hl hD
      go_wp2_with fail
      refine (HI.out _).mono ?_
      rintro e X ⟨rfl, hbX⟩
      have HBX := Lib.hid (HB.out.trans (hbX.mono HB.out.size))
      clear hbX lt c0 c1 c2 c3 c4 c5 c6 c7 c8
      go_wp2_with fail
      refine bodyPost_ret (v := .string (⟨#[73]⟩ ++ D)) (by simp [results, Tryd.results9, go_sem]) rfl ⟨by rw [HQ.out, HP.out], HBX.out⟩
    · have HP := Lib.hid (show (Ex.mk 1 ⟨2, m, t⟩ rel col n s []).print = 66 :: Lib.itoa m by rw [print_leaf1]; unfold printV; simp)
      have HI := Lib.hid (fun w => digits_any m i1 i2 w)
      have hl := dgs_le m hv
      obtain ⟨D, hD⟩ : ∃ D, D = dgs m := ⟨_, rfl⟩
      rw [← hD] at hl HI
      have g0 : ¬ 9223372036854775807 < 1 + D.size := by omega
      have HQ := Lib.hid (show (⟨#[66]⟩ : ByteArray) ++ D = bsB (66 :: Lib.itoa m) by rw [hD]; exact cat2 66 m)
      clear hl hD
      go_wp2_with fail
      refine (HI.out _).mono ?_
      rintro e X ⟨rfl, hbX⟩
      have HBX := Lib.hid (HB.out.trans (hbX.mono HB.out.size))
      clear hbX lt c0 c1 c2 c3 c4 c5 c6 c7 c8
      go_wp2_with fail
      refine bodyPost_ret (v := .string (⟨#[66]⟩ ++ D)) (by simp [results, Tryd.results9, go_sem]) rfl ⟨by rw [HQ.out, HP.out], HBX.out⟩
    · have HP := Lib.hid (show (Ex.mk 1 ⟨3, m, t⟩ rel col n s []).print = 84 :: Lib.itoa t.size ++ [58] ++ t.data.toList by rw [print_leaf1]; unfold printV; simp)
      obtain ⟨hi, hsl⟩ := HS.out rfl
      have HI3 := Lib.hid (fun (x : After W) => calls_after (digits_any t.size (inR_iff.1 hi).1 (inR_iff.1 hi).2 x.W))
      have hl := dgs_le t.size hi
      obtain ⟨D, hD⟩ : ∃ D, D = dgs t.size := ⟨_, rfl⟩
      rw [← hD] at hl HI3
      have g0 : ¬ 9223372036854775807 < 1 + D.size := by omega
      have g1 : ¬ 9223372036854775807 < 1 + D.size + 1 := by omega
      have g2 : ¬ 9223372036854775807 < 1 + D.size + 1 + t.size := by omega
      have HD := Lib.hid (show (⟨#[84]⟩ : ByteArray) ++ D ++ ⟨#[58]⟩ ++ t = bsB (84 :: Lib.itoa t.size ++ [58] ++ t.data.toList) by rw [hD]; exact cat4 84 58 t.size t)
      clear hl hsl hD hi
      go_upto_region 10 with fail
      have r3 := fun (x : After W) => (x.cell g 3 lt).trans c3
      have is := After.some W
      refine wp_region_after (by kernel_rfl) (by kernel_rfl) ?_
      repeat (quiet_step ((go_at_call 22; exact HI3.out _)))
      refine wpQuiet_nil ?_
      intro Wq hw
      obtain ⟨⟨Wq, hbq⟩, rfl⟩ := hw
      go_wp2_with fail
      refine bodyPost_ret (v := .string (⟨#[84]⟩ ++ D ++ ⟨#[58]⟩ ++ t)) (by simp [results, Tryd.results9, go_sem]) rfl ⟨by rw [HP.out, HD.out], HB.out.trans (hbq.mono HB.out.size)⟩
  · have h1 := rel_ok HH.out rfl
    have h2 := dcol_ok HH.out rfl
    have i1 := inR_small h1.1 (by omega : rel ≤ 100)
    have i2 := inR_small h2.1 (by omega : col ≤ 100)
    have HI1 := Lib.hid (fun (x : After W) => calls_after (digits_any rel (inR_iff.1 i1).1 (inR_iff.1 i1).2 x.W))
    have HI2 := Lib.hid (fun (x : After W) => calls_after (digits_any col (inR_iff.1 i2).1 (inR_iff.1 i2).2 x.W))
    have hl := dgs_le rel i1
    have hl2 := dgs_le col i2
    obtain ⟨D, hD⟩ : ∃ D, D = dgs rel := ⟨_, rfl⟩
    obtain ⟨E, hE⟩ : ∃ E, E = dgs col := ⟨_, rfl⟩
    rw [← hD] at hl HI1
    rw [← hE] at hl2 HI2
    have g0 : ¬ 9223372036854775807 < 1 + D.size := by omega
    have g1 : ¬ 9223372036854775807 < 1 + D.size + 1 := by omega
    have g2 : ¬ 9223372036854775807 < 1 + D.size + 1 + E.size := by omega
    have HQ := Lib.hid (show (⟨#[82]⟩ : ByteArray) ++ D ++ ⟨#[46]⟩ ++ E = bsB (82 :: Lib.itoa rel ++ [46] ++ Lib.itoa col) by rw [hD, hE]; exact cat4 82 46 rel (dgs col))
    have r4 := fun (x : After W) => (x.cell g 4 lt).trans c4
    have r5 := fun (x : After W) => (x.cell g 5 lt).trans c5
    clear h1 h2 i1 i2 hl hl2 hD hE
    go_upto_region 12 with fail
    have is := After.some W
    refine wp_region_after (by kernel_rfl) (by kernel_rfl) ?_
    repeat (quiet_step ((go_at_call 22; first | with_reducible exact HI1.out _ | with_reducible exact HI2.out _)))
    refine wpQuiet_nil ?_
    intro Wq hw
    obtain ⟨⟨Wq, hbq⟩, rfl⟩ := hw
    go_wp2_with fail
    refine bodyPost_ret (v := .string (⟨#[82]⟩ ++ D ++ ⟨#[46]⟩ ++ E)) (by simp [results, Tryd.results9, go_sem]) rfl ⟨by rw [HQ.out, print_ref], HB.out.trans (hbq.mono HB.out.size)⟩
  · have h1 := n_ok HH.out rfl
    have i1 := inR_small (show 0 ≤ n by omega) (by omega : n ≤ 100)
    have HP := Lib.hid (print_par (v := v) (rel := rel) (col := col) (n := n) (s := s) (l := []))
    have HI := Lib.hid (fun w => digits_any n (inR_iff.1 i1).1 (inR_iff.1 i1).2 w)
    have hl := dgs_le n i1
    obtain ⟨D, hD⟩ : ∃ D, D = dgs n := ⟨_, rfl⟩
    rw [← hD] at hl HI
    have g0 : ¬ 9223372036854775807 < 1 + D.size := by omega
    have HQ := Lib.hid (show (⟨#[80]⟩ : ByteArray) ++ D = bsB (80 :: Lib.itoa n) by rw [hD]; exact cat2 80 n)
    clear hl hD
    go_wp2_with fail
    refine (HI.out _).mono ?_
    rintro e X ⟨rfl, hbX⟩
    have HBX := Lib.hid (HB.out.trans (hbX.mono HB.out.size))
    clear hbX lt c0 c1 c2 c3 c4 c5 c6 c7 c8
    go_wp2_with fail
    refine bodyPost_ret (v := .string (⟨#[80]⟩ ++ D)) (by simp [results, Tryd.results9, go_sem]) rfl ⟨by rw [HQ.out, HP.out], HBX.out⟩
  · exfalso
    unfold wantsOf at hw
    split at hw
    · omega
    · split at hw
      · omega
      · split at hw <;> omega
theorem printL_take_le (l : List Ex) (i : Nat) : (printL (l.take i)).length ≤ (printL l).length := by
  have h := printL_append (l.take i) (l.drop i)
  rw [List.take_append_drop] at h
  rw [h, List.length_append]
  omega
set_option maxHeartbeats 4000000 in
theorem rprint_op (op : Int) (v : Val) (rel col n : Int) (s : ByteArray) (l : List Ex) (q : Option Addr) (c : Nat) (w : World) (h4 : 4 ≤ op) (h18 : op ≤ 100) (hlm : l.length ≤ 100) (hpl : (printL l).length ≤ 40000) (hl : ExL w q 0 l)
    (IH : ∀ y ∈ l, ∀ (cs : List Value) (w : World), ExM w y cs → Calls Tryd.prog 9 #[.agg cs.toArray] w fun e w' => e = .returned (.string (bsB y.print)) ∧ Below w.heap.size w w') :
    Calls Tryd.prog 9 #[.agg (exCells op v rel col n s q l.length c).toArray] w fun e w' => e = .returned (.string (bsB (Ex.mk op v rel col n s l).print)) ∧ Below w.heap.size w w' := by
  have HL := Lib.hid hl
  have HI := Lib.hid IH
  obtain ⟨len, hlen⟩ : ∃ len, len = l.length := ⟨_, rfl⟩
  rw [← hlen] at hlm ⊢
  have HLEN := Lib.hid hlen
  have HPL := Lib.hid hpl
  have b1 : (op == 1) = false := by rw [beq_eq_false_iff_ne]; omega
  have b2 : (op == 2) = false := by rw [beq_eq_false_iff_ne]; omega
  have b3 : (op == 3) = false := by rw [beq_eq_false_iff_ne]; omega
  have i1 := inR_small (show 0 ≤ op by omega) h18
  have HD := Lib.hid (fun w => digits_any op (inR_iff.1 i1).1 (inR_iff.1 i1).2 w)
  have hdl := dgs_le op i1
  have HPR := Lib.hid (print_op (v := v) (rel := rel) (col := col) (n := n) (s := s) (l := l) h4)
  have HIL := Lib.hid (itoa_le i1)
  clear hlen hl IH hpl i1
  have E0 := EB.new w op v rel col n s q len c 26
  have B0 : Below w.heap.size w (w.alloc (.cells (exCells op v rel col n s q len c).toArray 26)) := ext_alloc (ext_refl _) _
  obtain ⟨W, hW⟩ : ∃ W, W = w.alloc (.cells (exCells op v rel col n s q len c).toArray 26) := ⟨_, rfl⟩
  rw [← hW] at E0 B0
  go_enter Tryd.func9, Tryd.ntmps9
  go_upto_region 1 with fail
  rw [← hW]
  clear hW
  obtain ⟨g, hg⟩ : ∃ g, g = w.heap.size := ⟨_, rfl⟩
  have HB := Lib.hid B0
  have HGW := Lib.hid hg
  rw [← hg] at E0
  rw [← hg]
  clear B0 hg
  have HE := Lib.hid E0
  obtain ⟨lt, c0, c1, c2, c3, c4, c5, c6, c7, c8⟩ := E0
  obtain ⟨D, hD⟩ : ∃ D, D = dgs op := ⟨_, rfl⟩
  rw [← hD] at HD hdl
  have g0 : ¬ 9223372036854775807 < 1 + D.size := by omega
  have HC := Lib.hid (show (⟨#[40]⟩ : ByteArray) ++ D = bsB (40 :: Lib.itoa op) by rw [hD]; exact cat2 40 op)
  clear hD h4 h18
  go_wp2_with fail
  refine (HD.out _).mono ?_
  rintro e M ⟨rfl, hbM⟩
  have HBM := Lib.hid (HB.out.trans (hbM.mono HB.out.size))
  have HEM := Lib.hid (HE.out.on hbM)
  clear hbM lt c0 c1 c2 c3 c4 c5 c6 c7 c8 HB HE b1 b2 b3
  obtain ⟨lt, c0, c1, c2, c3, c4, c5, c6, c7, c8⟩ := HEM.out
  go_wp2_with fail
  go_loopw [3, 4] (fun vt vi wr => ∃ (T : ByteArray) (i : Nat), vt = .string T ∧ vi = .int .i64 i ∧ i ≤ len ∧ T.size ≤ 40022 ∧ Hid (T = bsB (40 :: Lib.itoa op ++ printL (l.take i))) ∧ Hid (EB wr g op v rel col n s q len c ∧ Below w.heap.size w wr)) (fun _ vi _ => len - (intOf vi).toNat)
  case atStart => exact ⟨⟨#[40]⟩ ++ D, 0, rfl, rfl, by omega, by rw [HC.out]; show (40 :: Lib.itoa op).length ≤ _; have := HIL.out; simp; omega, by (show _ = _; rw [HC.out, List.take_zero, printL, List.append_nil]), HEM.out, HBM.out⟩
  case round =>
    obtain ⟨T, i, rfl, rfl, hi, hT, HT, hE⟩ := hrel
    obtain ⟨V, hV⟩ : ∃ V, V = wr := ⟨_, rfl⟩
    rw [← hV] at hE
    rw [← hV]
    have HEV := Lib.hid hE.out.1
    have HBV := Lib.hid hE.out.2
    have HT := Lib.hid HT.out
    clear hV hE lt c0 c1 c2 c3 c4 c5 c6 c7 c8 HEM HBM
    obtain ⟨lt, c0, c1, c2, c3, c4, c5, c6, c7, c8⟩ := HEV.out
    by_cases hlt : i < len
    · obtain ⟨y, hy⟩ : ∃ y, l[i]? = some y := ⟨_, List.getElem?_eq_getElem (by rw [← HLEN.out]; exact hlt)⟩
      have hl_ := ExL.at_ (ExL.ext HBV.out _ _ _ HL.out) hy
      obtain ⟨g0, off0, cs0, hq0, hg0, hx0, hcell⟩ := hl_
      subst hq0
      have HX0 := Lib.hid hx0
      have HIY := Lib.hid (HI.out y (List.mem_of_getElem? hy))
      have HS := Lib.hid (printL_step hy)
      clear hy
      obtain ⟨P, hP⟩ : ∃ P, P = y.print := ⟨_, rfl⟩
      rw [← hP] at HIY HS
      have hsz : (T ++ (⟨#[32]⟩ : ByteArray) ++ bsB P).size ≤ 40022 := by
        have e : T ++ (⟨#[32]⟩ : ByteArray) ++ bsB P = bsB (40 :: Lib.itoa op ++ printL (l.take i) ++ [32] ++ P) := by
          rw [HT.out]
          exact (congrArg (· ++ bsB P) (bsB_add _ [32])).trans (bsB_add _ P)
        rw [e]
        show (40 :: Lib.itoa op ++ printL (l.take i) ++ [32] ++ P).length ≤ _
        have h1 := printL_take_le l (i + 1)
        rw [HS.out] at h1
        have h2 := HPL.out
        have h3 := HIL.out
        simp at h1 ⊢
        omega
      have HT2 := Lib.hid (show T ++ (⟨#[32]⟩ : ByteArray) ++ bsB P = bsB (40 :: Lib.itoa op ++ printL (l.take (i + 1))) by
        rw [HT.out, HS.out]
        refine ((congrArg (· ++ bsB P) (bsB_add _ [32])).trans (bsB_add _ P)).trans ?_
        simp)
      obtain ⟨B, hB⟩ : ∃ B, B = bsB P := ⟨_, rfl⟩
      rw [← hB] at hsz HT2 HIY
      have hs1 : ¬ 9223372036854775807 < T.size + 1 := by omega
      have hs2 : ¬ 9223372036854775807 < T.size + 1 + B.size := by rw [ByteArray.size_append, ByteArray.size_append] at hsz; have : (⟨#[32]⟩ : ByteArray).size = 1 := rfl; omega
      clear hP hB HT HS
      obtain ⟨op1, v1, rel1, col1, n1, s1, l1⟩ := y
      rw [ExM.iff] at hx0
      obtain ⟨-, qq0, cc0, rfl, -, -⟩ := hx0
      have f0 := hcell 0 _ rfl
      have f1 := hcell 1 _ rfl
      have f2 := hcell 2 _ rfl
      have f3 := hcell 3 _ rfl
      have f4 := hcell 4 _ rfl
      have f5 := hcell 5 _ rfl
      have f6 := hcell 6 _ rfl
      have f7 := hcell 7 _ rfl
      have f8 := hcell 8 _ rfl
      simp only [Nat.zero_add, Nat.add_zero] at f0 f1 f2 f3 f4 f5 f6 f7 f8
      clear hcell
      go_wp2_with fail
      refine (HIY.out _ V HX0.out).mono ?_
      rintro e Y ⟨rfl, hb⟩
      have HBY := Lib.hid (HBV.out.trans (hb.mono HBV.out.size))
      have HEY := Lib.hid (HEV.out.on hb)
      clear hb lt c0 c1 c2 c3 c4 c5 c6 c7 c8 f0 f1 f2 f3 f4 f5 f6 f7 f8
      go_wp2_with fail
      go_roundw
      case rel => exact ⟨T ++ (⟨#[32]⟩ : ByteArray) ++ B, i + 1, rfl, by go_num, hlt, hsz, HT2, HEY.out, HBY.out⟩
      case measure => simp [intOf] <;> omega
    · have HZ := Lib.hid (show T ++ (⟨#[41]⟩ : ByteArray) = bsB (Ex.mk op v rel col n s l).print by
        rw [HPR.out, HT.out, show i = l.length by rw [← HLEN.out]; omega, List.take_length]
        exact bsB_add _ [41])
      have hs1 : ¬ 9223372036854775807 < T.size + 1 := by omega
      clear HT
      go_wp2_with fail
      refine bodyPost_ret (v := .string (T ++ ⟨#[41]⟩)) (by simp [results, Tryd.results9, go_sem]) rfl ⟨by rw [HZ.out], HBV.out⟩
theorem count_mem {l : List Ex} {y : Ex} (h : y ∈ l) : y.count ≤ countL l := by
  obtain ⟨i, hi, he⟩ := List.getElem_of_mem h
  have h1 := countL_step (l := l) (i := i) (x := y) (by rw [List.getElem?_eq_getElem hi, he])
  have h2 := countL_le l (i + 1)
  omega
theorem op_four {op : Int} {v : Val} {rel col n : Int} {s : ByteArray} {len : Nat} (h : headOk op v rel col n s len = true) (hl : 0 < len) : 4 ≤ op := by
  have h1 := (head_shape h).2
  rcases h1 with h | h | h | h
  all_goals omega
theorem rprint_any : ∀ (k : Nat) (x : Ex), x.deep ≤ k → x.okAll = true → x.count ≤ 200 → ∀ (cs : List Value) (w : World), ExM w x cs → Calls Tryd.prog 9 #[.agg cs.toArray] w fun e w' => e = .returned (.string (bsB x.print)) ∧ Below w.heap.size w w'
  | 0, x, h, _, _ => absurd (deep_pos x) (by omega)
  | k + 1, .mk op v rel col n s l, h, ho, hc => fun cs w hx => by
    have hpl := print_len _ cs hx ho
    rw [Ex.okAll, Bool.and_eq_true] at ho
    rw [Ex.deep] at h
    rw [Ex.count] at hc hpl
    have IH : ∀ y ∈ l, ∀ (cs : List Value) (w : World), ExM w y cs → Calls Tryd.prog 9 #[.agg cs.toArray] w fun e w' => e = .returned (.string (bsB y.print)) ∧ Below w.heap.size w w' := fun y hy => rprint_any k y (by have := deepL_of_mem hy; omega) (by obtain ⟨i, hi, he⟩ := List.getElem_of_mem hy; exact okL_all ho.2 (i := i) (by rw [List.getElem?_eq_getElem hi, he])) (by have := count_mem hy; omega)
    rw [ExM.iff] at hx
    obtain ⟨hv, q, c, rfl, -, hl⟩ := hx
    by_cases h0 : 0 < l.length
    · have h4 := op_four ho.1 h0
      have hr := op_range ho.1
      have h2 := head_two ho.1
      refine rprint_op op v rel col n s l q c w h4 (by omega) (by omega) ?_ hl IH
      rw [print_op h4] at hpl
      simp at hpl
      omega
    · obtain rfl : l = [] := List.eq_nil_of_length_eq_zero (by omega)
      exact rprint_leaf op v rel col n s q c w ho.1 hv.2.1
open Go.RowKit Go.Maps Go.ChangeShapes Go.Deep Go.Shelf
set_option maxRecDepth 100000
theorem ex_leaf {w : World} {P : Nat → Prop} {op : Int} {v : Val} {rel col n : Int} {s : ByteArray} {cs : List Value} (h : ExMP w P (.mk op v rel col n s []) cs) : ∃ q c, cs = exCells op v rel col n s q 0 c := by
  rw [ExMP.iff] at h
  obtain ⟨-, q, c, rfl, -, -⟩ := h
  exact ⟨q, c, rfl⟩
theorem ex_two {w : World} {P : Nat → Prop} {op : Int} {v : Val} {rel col n : Int} {s : ByteArray} {a b : Ex} {cs : List Value} (h : ExMP w P (.mk op v rel col n s [a, b]) cs) : ∃ g off c ca cb, cs = exCells op v rel col n s (some ⟨g, off, none⟩) 2 c ∧ 2 ≤ c ∧ g < w.heap.size ∧ ExMP w P a ca ∧ ExMP w P b cb ∧
    (∀ (k : Nat) u, ca[k]? = some u → w.cell? ⟨g, off + k, none⟩ = some u) ∧ ∀ (k : Nat) u, cb[k]? = some u → w.cell? ⟨g, off + 9 + k, none⟩ = some u := by
  rw [ExMP.iff] at h
  obtain ⟨-, q, c, rfl, hc, hl⟩ := h
  obtain ⟨g, off, ca, hq, hg, -, ha, hca⟩ := ExLP.at_ (j := 0) (x := a) hl rfl
  obtain ⟨g', off', cb, hq', -, -, hb, hcb⟩ := ExLP.at_ (j := 1) (x := b) hl rfl
  subst hq
  obtain ⟨rfl, rfl⟩ : g = g' ∧ off = off' := by simpa using hq'
  refine ⟨g, off, c, ca, cb, rfl, hc, hg, ha, hb, fun k u hu => ?_, fun k u hu => ?_⟩
  · have := hca k u hu; simpa using this
  · have := hcb k u hu; simpa using this
abbrev rfX (rel col : Int) : Ex := .mk 2 zeroVal rel col 0 ⟨#[]⟩ []
abbrev nmX (k : Int) : Ex := .mk 1 (num k) 0 0 0 ⟨#[]⟩ []
abbrev opX (op : Int) (a b : Ex) : Ex := .mk op zeroVal 0 0 0 ⟨#[]⟩ [a, b]
theorem rfX_in (w : World) (P : Nat → Prop) (rel col : Int) : ExMP w P (rfX rel col) (exCells 2 zeroVal rel col 0 ⟨#[]⟩ none 0 0) := ExMP.iff.2 ⟨⟨by decide, by decide, by decide⟩, none, 0, rfl, Nat.le_refl _, by rw [ExLP]; trivial⟩
theorem nmX_in (w : World) (P : Nat → Prop) (k : Int) (hk : inR k = true) : ExMP w P (nmX k) (exCells 1 (num k) 0 0 0 ⟨#[]⟩ none 0 0) := ExMP.iff.2 ⟨⟨(by decide : inR 1 = true), hk, (by decide : (0 : Nat) ≤ maxLen)⟩, none, 0, rfl, Nat.le_refl _, by rw [ExLP]; trivial⟩
theorem opX_in (w : World) (T : TypeId) (op : Int) (a b : Ex) (ca cb : List Value) (ha : ExM (w.alloc (.cells (ca ++ cb).toArray T)) a ca) (hb : ExM (w.alloc (.cells (ca ++ cb).toArray T)) b cb) : ExM (w.alloc (.cells (ca ++ cb).toArray T)) (opX op a b) (exCells op zeroVal 0 0 0 ⟨#[]⟩ (some ⟨w.heap.size, 0, none⟩) 2 2) :=
  ExM.iff.2 ⟨⟨by decide, by decide, by decide⟩, _, 2, rfl, Nat.le_refl _, ExLP.toL _ _ _ (ExLP.two (P := fun _ => True) (ExMP.on (Nat.le_refl _) (fun _ _ _ => rfl) (fun _ _ _ => trivial) _ _ (ExM.toP _ _ ha)) (ExMP.on (Nat.le_refl _) (fun _ _ _ => rfl) (fun _ _ _ => trivial) _ _ (ExM.toP _ _ hb)) (by simp) trivial fun k u hu => by rw [Lib.cell_of_heap (heap_alloc_new w _), List.getElem?_toArray]; exact hu)⟩
theorem intsA_new (w : World) (T : TypeId) (l : List Int) : IntsA (w.alloc (.cells (l.map (Value.int .i64)).toArray T)) 0 (w.alloc (.cells (l.map (Value.int .i64)).toArray T)).heap.size (some ⟨w.heap.size, 0, none⟩) l := fun i hi => ⟨w.heap.size, 0, rfl, Nat.zero_le _, by simp, fun j x hx => by
  show World.cell? _ ⟨w.heap.size, 0 + j * 1, none⟩ = some (.int .i64 x)
  rw [Lib.cell_of_heap (heap_alloc_new w _), List.getElem?_toArray, Nat.zero_add, Nat.mul_one, List.getElem?_map, hx]
  rfl⟩
theorem eg_n1 : normR (opX 13 (rfX 1 0) (nmX 5)) = opX 11 (nmX 5) (rfX 1 0) ∧ errR (opX 13 (rfX 1 0) (nmX 5)) = 0 := by
  have h : rightE (opX 13 (rfX 1 0) (nmX 5)) = true := by decide +kernel
  unfold normR errR
  rw [if_pos h, if_pos h]
  exact ⟨by kernel_rfl, rfl⟩
theorem eg_n2 : normR (opX 9 (rfX 1 0) (rfX 0 0)) = opX 9 (rfX 0 0) (rfX 1 0) ∧ errR (opX 9 (rfX 1 0) (rfX 0 0)) = 0 := by
  have h : rightE (opX 9 (rfX 1 0) (rfX 0 0)) = true := by decide +kernel
  unfold normR errR
  rw [if_pos h, if_pos h]
  exact ⟨by kernel_rfl, rfl⟩
theorem eg_of : ofE [3] 1 [] 1 = ([83, 51, 32], 0) := by kernel_rfl
theorem dof_eg (w : World) (g : Nat) (hg : g = w.heap.size) (hG : GE (w.alloc (.cells #[.int .i64 3] 3))) : Calls Tryd.prog 18 #[.agg #[.slice (some ⟨g, 0, none⟩) 1 1, .int .i64 1, .slice none 0 0, .slice none 0 0, .slice none 0 0, .slice none 0 0, .slice none 0 0, .bool false, .slice none 0 0, .slice none 0 0, .bool false], .int .i64 1] (w.alloc (.cells #[.int .i64 3] 3)) fun e w' => e = .returned (.tuple #[.string (bsB [83, 51, 32]), .int .i64 0]) ∧ Below (w.alloc (.cells #[.int .i64 3] 3)).heap.size (w.alloc (.cells #[.int .i64 3] 3)) w' := by
  subst hg
  obtain ⟨r, hr⟩ : ∃ r : RawK, r = ⟨⟨some ⟨w.heap.size, 0, none⟩, 1, 1⟩, 1, ⟨none, 0, 0⟩, ⟨none, 0, 0⟩, ⟨none, 0, 0⟩, ⟨none, 0, 0⟩, ⟨none, 0, 0⟩, false, ⟨none, 0, 0⟩, ⟨none, 0, 0⟩, false⟩ := ⟨_, rfl⟩
  have BI : BlkIn (w.alloc (.cells #[.int .i64 3] 3)) r [3] [] := by
    subst hr
    exact ⟨rfl, ⟨Nat.le_refl 1, (by decide : 1 ≤ 9223372036854775807)⟩, intsA_new w 3 [3], rfl, ⟨Nat.le_refl 0, Nat.zero_le _⟩, by rw [ExL]; trivial, by decide⟩
  have hc : r.core = 1 := by rw [hr]
  have h := dof_any r [3] [] 1 _ BI hG (by decide) (by rw [hc]; decide) (by decide) (by decide)
  rw [hc, eg_of] at h
  rw [hr] at h
  exact h
set_option maxHeartbeats 8000000 in
theorem examples12_any (w : World) (hG : GE w) : Calls Tryd.prog 8 #[] w fun e w' => e = .returned (.bool true) ∧ Below w.heap.size w w' := by
  have HG := Lib.hid hG
  clear hG
  go_enter Tryd.func8, Tryd.ntmps8
  go_wp2_with fail
  have X1 := opX_in (w.alloc (.cells (exCells 1 (num 5) 0 0 0 ⟨#[]⟩ none 0 0).toArray 26)) 26 13 (rfX 1 0) (nmX 5) _ _ (ExMP.toM _ _ (rfX_in _ (fun _ => True) 1 0)) (ExMP.toM _ _ (nmX_in _ (fun _ => True) 5 (by decide)))
  have B1 : Below w.heap.size w ((w.alloc (.cells (exCells 1 (num 5) 0 0 0 ⟨#[]⟩ none 0 0).toArray 26)).alloc (.cells (exCells 2 zeroVal 1 0 0 ⟨#[]⟩ none 0 0 ++ exCells 1 (num 5) 0 0 0 ⟨#[]⟩ none 0 0).toArray 26)) := by (repeat (first | exact ext_refl _ | assumption | (refine ext_alloc ?_ _) | (refine ext_drewN ?_ _) | refine ext_drew ?_ | (refine ext_set (by first | (simp; done) | (simp; omega)) _ ?_) | (refine ext_trans ?_ (by assumption))))
  rw [World.size_alloc] at X1
  change Calls Tryd.prog 10 #[.agg (exCells 13 zeroVal 0 0 0 ⟨#[]⟩ (some ⟨w.heap.size + 1, 0, none⟩) 2 2).toArray] ((w.alloc (.cells (exCells 1 (num 5) 0 0 0 ⟨#[]⟩ none 0 0).toArray 26)).alloc (.cells (exCells 2 zeroVal 1 0 0 ⟨#[]⟩ none 0 0 ++ exCells 1 (num 5) 0 0 0 ⟨#[]⟩ none 0 0).toArray 26)) _
  generalize (w.alloc (.cells (exCells 1 (num 5) 0 0 0 ⟨#[]⟩ none 0 0).toArray 26)).alloc (.cells (exCells 2 zeroVal 1 0 0 ⟨#[]⟩ none 0 0 ++ exCells 1 (num 5) 0 0 0 ⟨#[]⟩ none 0 0).toArray 26) = W1 at X1 B1 ⊢
  refine (dnormal_any _ _ W1 X1 (HG.out.on B1)).mono ?_
  rintro e Y ⟨⟨r1, rfl, hP1⟩, hb1⟩
  rw [eg_n1.1] at hP1
  rw [eg_n1.2]
  have HB1 := Lib.hid (B1.trans (hb1.mono B1.size))
  have HP1 := Lib.hid hP1
  obtain ⟨g1, o1, c1, ca1, cb1, hr1, -, hg1, -, hcb1, -, hcell1⟩ := ex_two hP1
  obtain ⟨qx1, cx1, rfl⟩ := ex_leaf hcb1
  have e1 := RawE.inj (r' := ⟨11, zeroVal, 0, 0, 0, ⟨#[]⟩, some ⟨g1, o1, none⟩, 2, c1⟩) hr1
  subst e1
  have f1 := hcell1 4 _ rfl
  clear X1 B1 hb1 hP1 hr1 hcb1 hcell1
  go_wp2_with fail
  have K1 := KB.new Y (exCells 11 zeroVal 0 0 0 ⟨#[]⟩ (some ⟨g1, o1, none⟩) 2 c1) 26
  have X2 := opX_in (Y.alloc (.cells (exCells 11 zeroVal 0 0 0 ⟨#[]⟩ (some ⟨g1, o1, none⟩) 2 c1).toArray 26)) 26 9 (rfX 1 0) (rfX 0 0) _ _ (ExMP.toM _ _ (rfX_in _ (fun _ => True) 1 0)) (ExMP.toM _ _ (rfX_in _ (fun _ => True) 0 0))
  have B2 : Below Y.heap.size Y ((Y.alloc (.cells (exCells 11 zeroVal 0 0 0 ⟨#[]⟩ (some ⟨g1, o1, none⟩) 2 c1).toArray 26)).alloc (.cells (exCells 2 zeroVal 1 0 0 ⟨#[]⟩ none 0 0 ++ exCells 2 zeroVal 0 0 0 ⟨#[]⟩ none 0 0).toArray 26)) := by (repeat (first | exact ext_refl _ | assumption | (refine ext_alloc ?_ _) | (refine ext_drewN ?_ _) | refine ext_drew ?_ | (refine ext_set (by first | (simp; done) | (simp; omega)) _ ?_) | (refine ext_trans ?_ (by assumption))))
  have K1 := K1.on (ext_alloc (ext_refl _) (.cells (exCells 2 zeroVal 1 0 0 ⟨#[]⟩ none 0 0 ++ exCells 2 zeroVal 0 0 0 ⟨#[]⟩ none 0 0).toArray 26))
  rw [World.size_alloc] at X2
  change Calls Tryd.prog 10 #[.agg (exCells 9 zeroVal 0 0 0 ⟨#[]⟩ (some ⟨Y.heap.size + 1, 0, none⟩) 2 2).toArray] ((Y.alloc (.cells (exCells 11 zeroVal 0 0 0 ⟨#[]⟩ (some ⟨g1, o1, none⟩) 2 c1).toArray 26)).alloc (.cells (exCells 2 zeroVal 1 0 0 ⟨#[]⟩ none 0 0 ++ exCells 2 zeroVal 0 0 0 ⟨#[]⟩ none 0 0).toArray 26)) _
  generalize (Y.alloc (.cells (exCells 11 zeroVal 0 0 0 ⟨#[]⟩ (some ⟨g1, o1, none⟩) 2 c1).toArray 26)).alloc (.cells (exCells 2 zeroVal 1 0 0 ⟨#[]⟩ none 0 0 ++ exCells 2 zeroVal 0 0 0 ⟨#[]⟩ none 0 0).toArray 26) = W2 at X2 B2 K1 ⊢
  have f1 : W2.cell? ⟨g1, o1 + 9 + 4, none⟩ = some (.int .i64 1) := (B2.cell (p := ⟨g1, o1 + 9 + 4, none⟩) hg1).trans f1
  have hg1 : g1 < W2.heap.size := Nat.lt_of_lt_of_le hg1 B2.size
  refine (dnormal_any _ _ W2 X2 (HG.out.on (HB1.out.trans (B2.mono HB1.out.size)))).mono ?_
  rintro e Z ⟨⟨r2, rfl, hP2⟩, hb2⟩
  rw [eg_n2.1] at hP2
  rw [eg_n2.2]
  have HB2 := Lib.hid (HB1.out.trans ((B2.trans (hb2.mono B2.size)).mono HB1.out.size))
  obtain ⟨g2, o2, c2, ca2, cb2, hr2, -, hg2, hca2, -, hcell2, -⟩ := ex_two hP2
  obtain ⟨qx2, cx2, rfl⟩ := ex_leaf hca2
  have e2 := RawE.inj (r' := ⟨9, zeroVal, 0, 0, 0, ⟨#[]⟩, some ⟨g2, o2, none⟩, 2, c2⟩) hr2
  subst e2
  have f2 := hcell2 4 _ rfl
  have K1 := K1.on hb2
  have f1 : Z.cell? ⟨g1, o1 + 9 + 4, none⟩ = some (.int .i64 1) := (hb2.cell (p := ⟨g1, o1 + 9 + 4, none⟩) hg1).trans f1
  have hg1 : g1 < Z.heap.size := Nat.lt_of_lt_of_le hg1 hb2.size
  obtain ⟨ga, hga⟩ : ∃ g, g = Y.heap.size := ⟨_, rfl⟩
  rw [← hga] at K1 ⊢
  clear X2 B2 hb2 hP2 hr2 hca2 hcell2 hga HB1
  have ltA := K1.lt
  have a0 := K1.c 0 _ rfl
  have a8 := K1.c 8 _ rfl
  clear K1
  go_wp2_with fail
  have K2 := KB.new Z (exCells 9 zeroVal 0 0 0 ⟨#[]⟩ (some ⟨g2, o2, none⟩) 2 c2) 26
  have B3 : Below Z.heap.size Z ((Z.alloc (.cells (exCells 9 zeroVal 0 0 0 ⟨#[]⟩ (some ⟨g2, o2, none⟩) 2 c2).toArray 26)).alloc (.cells #[.int .i64 3] 3)) := by (repeat (first | exact ext_refl _ | assumption | (refine ext_alloc ?_ _) | (refine ext_drewN ?_ _) | refine ext_drew ?_ | (refine ext_set (by first | (simp; done) | (simp; omega)) _ ?_) | (refine ext_trans ?_ (by assumption))))
  have K2 := K2.on (ext_alloc (ext_refl _) (.cells #[.int .i64 3] 3))
  refine Calls.mono (dof_eg (Z.alloc (.cells (exCells 9 zeroVal 0 0 0 ⟨#[]⟩ (some ⟨g2, o2, none⟩) 2 c2).toArray 26)) (Z.heap.size + 1) (by rw [World.size_alloc]) (HG.out.on (HB2.out.trans (B3.mono HB2.out.size)))) ?_
  rintro e V ⟨rfl, hb3⟩
  have HB3 := Lib.hid (HB2.out.trans ((B3.trans (hb3.mono B3.size)).mono HB2.out.size))
  have K2 := K2.on hb3
  have f1 : V.cell? ⟨g1, o1 + 9 + 4, none⟩ = some (.int .i64 1) := ((B3.trans (hb3.mono B3.size)).cell (p := ⟨g1, o1 + 9 + 4, none⟩) hg1).trans f1
  have f2 : V.cell? ⟨g2, o2 + 4, none⟩ = some (.int .i64 0) := ((B3.trans (hb3.mono B3.size)).cell (p := ⟨g2, o2 + 4, none⟩) hg2).trans f2
  have a0 : V.cell? ⟨ga, 0, none⟩ = some (.int .i64 11) := ((B3.trans (hb3.mono B3.size)).cell (p := ⟨ga, 0, none⟩) ltA).trans a0
  have a8 := ((B3.trans (hb3.mono B3.size)).cell (p := ⟨ga, 8, none⟩) ltA).trans a8
  have ltA : ga < V.heap.size := Nat.lt_of_lt_of_le ltA (B3.trans (hb3.mono B3.size)).size
  have hg1 : g1 < V.heap.size := Nat.lt_of_lt_of_le hg1 (B3.trans (hb3.mono B3.size)).size
  have hg2 : g2 < V.heap.size := Nat.lt_of_lt_of_le hg2 (B3.trans (hb3.mono B3.size)).size
  obtain ⟨gb, hgb⟩ : ∃ g, g = Z.heap.size := ⟨_, rfl⟩
  rw [← hgb] at K2 ⊢
  have ltB := K2.lt
  have b8 := K2.c 8 _ rfl
  clear B3 hb3 K2 hgb HB2
  go_wp2_with fail
  refine bodyPost_ret (v := .bool true) (by simp [results, Tryd.results8, go_sem]) rfl ⟨rfl, HB3.out⟩
end Go.Proofs.YtklgoajgchfmeaaDoor
