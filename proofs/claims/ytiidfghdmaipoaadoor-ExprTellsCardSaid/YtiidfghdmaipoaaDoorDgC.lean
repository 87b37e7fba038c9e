/- The reference's Print and Text. -/
import Derived.Test.YtiidfghdmaipoaaDoorDgB
namespace Go.Proofs.YtiidfghdmaipoaaDoor
open Go.RowKit Go.Deep
set_option maxRecDepth 100000

theorem printL_take_le (l : List Ex) (i : Nat) : (printL (l.take i)).length ≤ (printL l).length := by
  have h := printL_append (l.take i) (l.drop i)
  rw [List.take_append_drop] at h
  rw [h, List.length_append]
  omega
theorem cat1 (b : UInt8) (n : Int) : (⟨#[b]⟩ : ByteArray) ++ dgs n = bsB (b :: Lib.itoa n) := cat2 b n

set_option maxHeartbeats 4000000 in
theorem rprint_op (op : Int) (v : Val) (rel col n : Int) (s : ByteArray) (l : List Ex) (q : Option Addr) (c : Nat) (w : World) (h4 : 4 ≤ op) (h18 : op ≤ 100) (hlm : l.length ≤ 100) (hpl : (printL l).length ≤ 40000) (hl : ExL w q 0 l)
    (IH : ∀ y ∈ l, ∀ (cs : List Value) (w : World), ExM w y cs → Calls Tryd.prog 26 #[.agg cs.toArray] w fun e w' => e = .returned (.string (bsB y.print)) ∧ Below w.heap.size w w') :
    Calls Tryd.prog 26 #[.agg (exCells op v rel col n s q l.length c).toArray] w fun e w' => e = .returned (.string (bsB (Ex.mk op v rel col n s l).print)) ∧ Below w.heap.size w w' := by
  have HL := Lib.hid hl
  have HI := Lib.hid IH
  obtain ⟨len, hlen⟩ : ∃ len, len = l.length := ⟨_, rfl⟩
  rw [← hlen] at hlm ⊢
  have HLEN := Lib.hid hlen
  have HPL := Lib.hid hpl
  have b1 : (op == 1) = false := by rw [beq_eq_false_iff_ne]; omega
  have b2 : (op == 2) = false := by rw [beq_eq_false_iff_ne]; omega
  have b3 : (op == 3) = false := by rw [beq_eq_false_iff_ne]; omega
  have i1 := inR_small (show 0 ≤ op by omega) h18
  have HD := Lib.hid (fun w => digits_any op (inR_iff.1 i1).1 (inR_iff.1 i1).2 w)
  have hdl := dgs_le op i1
  have HPR := Lib.hid (print_op (v := v) (rel := rel) (col := col) (n := n) (s := s) (l := l) h4)
  have HIL := Lib.hid (itoa_le i1)
  clear hlen hl IH hpl i1
  have E0 := EB.new w op v rel col n s q len c 26
  have B0 : Below w.heap.size w (w.alloc (.cells (exCells op v rel col n s q len c).toArray 26)) := ext_alloc (ext_refl _) _
  obtain ⟨W, hW⟩ : ∃ W, W = w.alloc (.cells (exCells op v rel col n s q len c).toArray 26) := ⟨_, rfl⟩
  rw [← hW] at E0 B0
  go_enter Tryd.func26, Tryd.ntmps26
  go_upto_region 1 with fail
  rw [← hW]
  clear hW
  obtain ⟨g, hg⟩ : ∃ g, g = w.heap.size := ⟨_, rfl⟩
  have HB := Lib.hid B0
  have HGW := Lib.hid hg
  rw [← hg] at E0
  rw [← hg]
  clear B0 hg
  have HE := Lib.hid E0
  obtain ⟨lt, c0, c1, c2, c3, c4, c5, c6, c7, c8⟩ := E0
  obtain ⟨D, hD⟩ : ∃ D, D = dgs op := ⟨_, rfl⟩
  rw [← hD] at HD hdl
  have g0 : ¬ 9223372036854775807 < 1 + D.size := by omega
  have HC := Lib.hid (show (⟨#[40]⟩ : ByteArray) ++ D = bsB (40 :: Lib.itoa op) by rw [hD]; exact cat2 40 op)
  clear hD h4 h18
  go_wp2_with fail
  refine (HD.out _).mono ?_
  rintro e M ⟨rfl, hbM⟩
  have HBM := Lib.hid (HB.out.trans (hbM.mono HB.out.size))
  have HEM := Lib.hid (HE.out.on hbM)
  clear hbM lt c0 c1 c2 c3 c4 c5 c6 c7 c8 HB HE b1 b2 b3
  obtain ⟨lt, c0, c1, c2, c3, c4, c5, c6, c7, c8⟩ := HEM.out
  go_wp2_with fail
  go_loopw [3, 4] (fun vt vi wr => ∃ (T : ByteArray) (i : Nat), vt = .string T ∧ vi = .int .i64 i ∧ i ≤ len ∧ T.size ≤ 40022 ∧ Hid (T = bsB (40 :: Lib.itoa op ++ printL (l.take i))) ∧ Hid (EB wr g op v rel col n s q len c ∧ Below w.heap.size w wr)) (fun _ vi _ => len - (intOf vi).toNat)
  case atStart => exact ⟨⟨#[40]⟩ ++ D, 0, rfl, rfl, by omega, by rw [HC.out]; show (40 :: Lib.itoa op).length ≤ _; have := HIL.out; simp; omega, by (show _ = _; rw [HC.out, List.take_zero, printL, List.append_nil]), HEM.out, HBM.out⟩
  case round =>
    obtain ⟨T, i, rfl, rfl, hi, hT, HT, hE⟩ := hrel
    obtain ⟨V, hV⟩ : ∃ V, V = wr := ⟨_, rfl⟩
    rw [← hV] at hE
    rw [← hV]
    have HEV := Lib.hid hE.out.1
    have HBV := Lib.hid hE.out.2
    have HT := Lib.hid HT.out
    clear hV hE lt c0 c1 c2 c3 c4 c5 c6 c7 c8 HEM HBM
    obtain ⟨lt, c0, c1, c2, c3, c4, c5, c6, c7, c8⟩ := HEV.out
    by_cases hlt : i < len
    · obtain ⟨y, hy⟩ : ∃ y, l[i]? = some y := ⟨_, List.getElem?_eq_getElem (by rw [← HLEN.out]; exact hlt)⟩
      have hl_ := ExL.at_ (ExL.ext HBV.out _ _ _ HL.out) hy
      obtain ⟨g0, off0, cs0, hq0, hg0, hx0, hcell⟩ := hl_
      subst hq0
      have HX0 := Lib.hid hx0
      have HIY := Lib.hid (HI.out y (List.mem_of_getElem? hy))
      have HS := Lib.hid (printL_step hy)
      clear hy
      obtain ⟨P, hP⟩ : ∃ P, P = y.print := ⟨_, rfl⟩
      rw [← hP] at HIY HS
      have hsz : (T ++ (⟨#[32]⟩ : ByteArray) ++ bsB P).size ≤ 40022 := by
        have e : T ++ (⟨#[32]⟩ : ByteArray) ++ bsB P = bsB (40 :: Lib.itoa op ++ printL (l.take i) ++ [32] ++ P) := by
          rw [HT.out]
          exact (congrArg (· ++ bsB P) (bsB_add _ [32])).trans (bsB_add _ P)
        rw [e]
        show (40 :: Lib.itoa op ++ printL (l.take i) ++ [32] ++ P).length ≤ _
        have h1 := printL_take_le l (i + 1)
        rw [HS.out] at h1
        have h2 := HPL.out
        have h3 := HIL.out
        simp at h1 ⊢
        omega
      have HT2 := Lib.hid (show T ++ (⟨#[32]⟩ : ByteArray) ++ bsB P = bsB (40 :: Lib.itoa op ++ printL (l.take (i + 1))) by
        rw [HT.out, HS.out]
        refine ((congrArg (· ++ bsB P) (bsB_add _ [32])).trans (bsB_add _ P)).trans ?_
        simp)
      obtain ⟨B, hB⟩ : ∃ B, B = bsB P := ⟨_, rfl⟩
      rw [← hB] at hsz HT2 HIY
      have hs1 : ¬ 9223372036854775807 < T.size + 1 := by omega
      have hs2 : ¬ 9223372036854775807 < T.size + 1 + B.size := by rw [ByteArray.size_append, ByteArray.size_append] at hsz; have : (⟨#[32]⟩ : ByteArray).size = 1 := rfl; omega
      clear hP hB HT HS
      obtain ⟨op1, v1, rel1, col1, n1, s1, l1⟩ := y
      rw [ExM.iff] at hx0
      obtain ⟨-, qq0, cc0, rfl, -, -⟩ := hx0
      have f0 := hcell 0 _ rfl
      have f1 := hcell 1 _ rfl
      have f2 := hcell 2 _ rfl
      have f3 := hcell 3 _ rfl
      have f4 := hcell 4 _ rfl
      have f5 := hcell 5 _ rfl
      have f6 := hcell 6 _ rfl
      have f7 := hcell 7 _ rfl
      have f8 := hcell 8 _ rfl
      simp only [Nat.zero_add, Nat.add_zero] at f0 f1 f2 f3 f4 f5 f6 f7 f8
      clear hcell
      go_wp2_with fail
      refine (HIY.out _ V HX0.out).mono ?_
      rintro e Y ⟨rfl, hb⟩
      have HBY := Lib.hid (HBV.out.trans (hb.mono HBV.out.size))
      have HEY := Lib.hid (HEV.out.on hb)
      clear hb lt c0 c1 c2 c3 c4 c5 c6 c7 c8 f0 f1 f2 f3 f4 f5 f6 f7 f8
      go_wp2_with fail
      go_roundw
      case rel => exact ⟨T ++ (⟨#[32]⟩ : ByteArray) ++ B, i + 1, rfl, by go_num, hlt, hsz, HT2, HEY.out, HBY.out⟩
      case measure => simp [intOf] <;> omega
    · have HZ := Lib.hid (show T ++ (⟨#[41]⟩ : ByteArray) = bsB (Ex.mk op v rel col n s l).print by
        rw [HPR.out, HT.out, show i = l.length by rw [← HLEN.out]; omega, List.take_length]
        exact bsB_add _ [41])
      have hs1 : ¬ 9223372036854775807 < T.size + 1 := by omega
      clear HT
      go_wp2_with fail
      refine bodyPost_ret (v := .string (T ++ ⟨#[41]⟩)) (by simp [results, Tryd.results26, go_sem]) rfl ⟨by rw [HZ.out], HBV.out⟩

theorem count_mem {l : List Ex} {y : Ex} (h : y ∈ l) : y.count ≤ countL l := by
  obtain ⟨i, hi, he⟩ := List.getElem_of_mem h
  have h1 := countL_step (l := l) (i := i) (x := y) (by rw [List.getElem?_eq_getElem hi, he])
  have h2 := countL_le l (i + 1)
  omega
theorem op_four {op : Int} {v : Val} {rel col n : Int} {s : ByteArray} {len : Nat} (h : headOk op v rel col n s len = true) (hl : 0 < len) : 4 ≤ op := by
  have h1 := (head_shape h).2
  rcases h1 with h | h | h | h
  all_goals omega

theorem rprint_any : ∀ (k : Nat) (x : Ex), x.deep ≤ k → x.okAll = true → x.count ≤ 200 → ∀ (cs : List Value) (w : World), ExM w x cs → Calls Tryd.prog 26 #[.agg cs.toArray] w fun e w' => e = .returned (.string (bsB x.print)) ∧ Below w.heap.size w w'
  | 0, x, h, _, _ => absurd (deep_pos x) (by omega)
  | k + 1, .mk op v rel col n s l, h, ho, hc => fun cs w hx => by
    have hpl := print_len _ cs hx ho
    rw [Ex.okAll, Bool.and_eq_true] at ho
    rw [Ex.deep] at h
    rw [Ex.count] at hc hpl
    have IH : ∀ y ∈ l, ∀ (cs : List Value) (w : World), ExM w y cs → Calls Tryd.prog 26 #[.agg cs.toArray] w fun e w' => e = .returned (.string (bsB y.print)) ∧ Below w.heap.size w w' := fun y hy => rprint_any k y (by have := deepL_of_mem hy; omega) (by obtain ⟨i, hi, he⟩ := List.getElem_of_mem hy; exact okL_all ho.2 (i := i) (by rw [List.getElem?_eq_getElem hi, he])) (by have := count_mem hy; omega)
    rw [ExM.iff] at hx
    obtain ⟨hv, q, c, rfl, -, hl⟩ := hx
    by_cases h0 : 0 < l.length
    · have h4 := op_four ho.1 h0
      have hr := op_range ho.1
      have h2 := head_two ho.1
      refine rprint_op op v rel col n s l q c w h4 (by omega) (by omega) ?_ hl IH
      rw [print_op h4] at hpl
      simp at hpl
      omega
    · obtain rfl : l = [] := List.eq_nil_of_length_eq_zero (by omega)
      exact rprint_leaf op v rel col n s q c w ho.1 hv.2.1

set_option maxHeartbeats 4000000 in
theorem rtext_any (x : Ex) (cs : List Value) (w : World) (hx : ExM w x cs) : Calls Tryd.prog 6 #[.agg cs.toArray] w fun e w' => e = .returned (.tuple #[.string (bsB (textR x).1), .bool (rightE x)]) ∧ Below w.heap.size w w' := by
  have HX := Lib.hid hx
  obtain ⟨op, v, rel, col, n, s, l⟩ := x
  rw [ExM.iff] at hx
  obtain ⟨-, q, c, rfl, -, -⟩ := hx
  obtain ⟨len, hlen⟩ : ∃ len, len = l.length := ⟨_, rfl⟩
  rw [← hlen] at HX ⊢
  clear hlen
  have E0 := EB.new w op v rel col n s q len c 26
  have B0 : Below w.heap.size w (w.alloc (.cells (exCells op v rel col n s q len c).toArray 26)) := ext_alloc (ext_refl _) _
  obtain ⟨W, hW⟩ : ∃ W, W = w.alloc (.cells (exCells op v rel col n s q len c).toArray 26) := ⟨_, rfl⟩
  rw [← hW] at E0 B0
  go_enter Tryd.func6, Tryd.ntmps6
  go_upto_region 1 with fail
  rw [← hW]
  clear hW
  obtain ⟨g, hg⟩ : ∃ g, g = w.heap.size := ⟨_, rfl⟩
  have HB := Lib.hid B0
  have HGW := Lib.hid hg
  rw [← hg] at E0
  rw [← hg]
  clear B0 hg
  have HE := Lib.hid E0
  obtain ⟨lt, c0, c1, c2, c3, c4, c5, c6, c7, c8⟩ := E0
  go_wp2_with fail
  refine (rightE_any _ _ W (ExM.ext HB.out _ _ HX.out)).mono ?_
  rintro e X ⟨he, hbX⟩
  have HBX := Lib.hid (HB.out.trans (hbX.mono HB.out.size))
  have EX := HE.out.on hbX
  clear hbX lt c0 c1 c2 c3 c4 c5 c6 c7 c8
  obtain ⟨lt, c0, c1, c2, c3, c4, c5, c6, c7, c8⟩ := EX
  cases hs : rightE (.mk op v rel col n s l) with
  | false =>
    have HR := Lib.hid hs
    have HQ := Lib.hid (show textR (.mk op v rel col n s l) = ([], 1) by unfold textR; rw [hs]; rfl)
    rw [hs] at he
    clear hs
    subst he
    go_wp2_with fail
    refine bodyPost_ret (v := .tuple #[.string ⟨#[]⟩, .bool false]) (by simp [results, Tryd.results6, go_sem]) rfl ⟨by rw [HQ.out, HR.out], HBX.out⟩
  | true =>
    have HR := Lib.hid hs
    have HP := Lib.hid (rightE_parts hs)
    have HQ := Lib.hid (show textR (.mk op v rel col n s l) = ((Ex.mk op v rel col n s l).print, 0) by unfold textR; rw [hs]; rfl)
    rw [hs] at he
    clear hs
    subst he
    go_wp2_with fail
    refine (rprint_any _ _ (Nat.le_refl _) HP.out.1 HP.out.2.2 _ X (ExM.ext HBX.out _ _ HX.out)).mono ?_
    rintro e Y ⟨rfl, hbY⟩
    have HBY := Lib.hid (HBX.out.trans (hbY.mono HBX.out.size))
    clear hbY
    obtain ⟨Z, hZ⟩ : ∃ Z, Z = bsB (Ex.mk op v rel col n s l).print := ⟨_, rfl⟩
    rw [← hZ]
    have HZ := Lib.hid hZ
    clear hZ lt c0 c1 c2 c3 c4 c5 c6 c7 c8
    go_wp2_with fail
    refine bodyPost_ret (v := .tuple #[.string Z, .bool true]) (by simp [results, Tryd.results6, go_sem]) rfl ⟨by rw [HQ.out, HZ.out, HR.out], HBY.out⟩

end Go.Proofs.YtiidfghdmaipoaaDoor
