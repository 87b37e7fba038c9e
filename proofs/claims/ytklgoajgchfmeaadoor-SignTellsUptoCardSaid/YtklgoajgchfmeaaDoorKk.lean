/- A part of the proof. -/
import Derived.Test.YtklgoajgchfmeaaDoorTxE
set_option linter.unusedVariables false
set_option linter.unusedSimpArgs false
namespace Go.Proofs.YtklgoajgchfmeaaDoor
open Go.RowKit Go.Deep
open Go.Lib (decDigits)
set_option maxRecDepth 100000
def lowD (z : Int) : Bs := if z = 0 then [] else decDigits z.natAbs
theorem lowD_step {z : Int} (h : z ≠ 0) : lowD z = lowD (z.tdiv 10) ++ [UInt8.ofNat (48 + z.natAbs % 10)] := by
  have e : (z.tdiv 10).natAbs = z.natAbs / 10 := by rw [Int.natAbs_tdiv]; rfl
  unfold lowD
  rw [if_neg h]
  by_cases h10 : z.natAbs < 10
  · rw [if_pos (by omega), Lib.decDigits_one h10, Nat.mod_eq_of_lt h10]
    rfl
  · rw [if_neg (by omega), decDigits, dif_neg h10, e]
theorem lowD_itoa {z : Int} (h : z ≠ 0) : Lib.itoa z = (if z < 0 then [45] else []) ++ lowD z := by
  unfold Lib.itoa lowD
  rw [if_neg h]
  by_cases h0 : z < 0
  · rw [if_pos h0, if_pos h0]; rfl
  · rw [if_neg h0, if_neg h0, show z.toNat = z.natAbs by omega]; rfl
theorem tmod_abs (z : Int) : z.tmod 10 = (if z < 0 then -((z.natAbs % 10 : Nat) : Int) else ((z.natAbs % 10 : Nat) : Int)) := by
  by_cases h : z < 0
  · rw [if_pos h]
    have e : z = -(z.natAbs : Int) := by omega
    conv => lhs; rw [e]
    rw [Int.neg_tmod, Int.tmod_eq_emod_of_nonneg (by omega)]
    rfl
  · rw [if_neg h]
    have e : z = (z.natAbs : Int) := by omega
    conv => lhs; rw [e]
    rw [Int.tmod_eq_emod_of_nonneg (by omega)]
    rfl
theorem lowD_len {z : Int} (h1 : -9223372036854775808 ≤ z) (h2 : z ≤ 9223372036854775807) : (lowD z).length ≤ 21 := by
  by_cases h : z = 0
  · subst h; simp [lowD]
  · have h3 := Lib.itoa_length_le z h1 h2
    rw [lowD_itoa h, List.length_append] at h3
    omega
theorem conv_one {w : World} {g i c : Nat} {b : UInt8} (h : w.cell? ⟨g, i, none⟩ = some (.int .u8 b.toNat)) : (convert 62 9 (.slice (some ⟨g, i, none⟩) 1 c)).run Tryd.prog w = .ok (.string ⟨#[b]⟩) w := by
  rw [run_convert_bytes_string w 62 9 5 _ _ _ Tryd.underlying62 Tryd.underlying5 Tryd.underlying9]
  have hl : (loadCells ⟨g, i, none⟩ ([(b.toNat : Int)]).length).run Tryd.prog w = .ok (([(b.toNat : Int)]).map (Value.int .u8)).toArray w := by
    have := run_loadCells_list (P := Tryd.prog) w ⟨g, i, none⟩ (([(b.toNat : Int)]).map (Value.int .u8)) (fun j u hu => by
      match j, hu with
      | 0, hu => simp at hu; subst hu; simpa [Addr.add] using h)
    simpa using this
  refine (run_bytesToString w _ _ c [(b.toNat : Int)] hl).trans ?_
  simp [ByteArray.push]
theorem drop_snoc_text {D : Bs} {j : Nat} {b : UInt8} (h : D[j]? = some b) : (D.drop j).reverse = (D.drop (j + 1)).reverse ++ [b] := by
  obtain ⟨h1, rfl⟩ := List.getElem?_eq_some_iff.1 h
  rw [List.drop_eq_getElem_cons h1, List.reverse_cons]
set_option maxHeartbeats 4000000 in
theorem digits_any (z : Int) (h1 : -9223372036854775808 ≤ z) (h2 : z ≤ 9223372036854775807) (w : World) : Calls Tryd.prog 22 #[.int .i64 z] w fun e w' => e = .returned (.string (dgs z)) ∧ Below w.heap.size w w' := by
  by_cases h0 : z = 0
  · subst h0
    go_enter Tryd.func22, Tryd.ntmps22
    go_wp2
    refine bodyPost_ret (v := .string ⟨#[48]⟩) (by simp [results, Tryd.results22, go_sem]) rfl ⟨by rw [show dgs 0 = (⟨#[48]⟩ : ByteArray) by unfold dgs; rw [show Lib.itoa 0 = [UInt8.ofNat (48 + 0)] from (by rw [show (0 : Int) = ((0 : Nat) : Int) from rfl, Lib.itoa_nonneg, Lib.decDigits_one (by omega)])]; rfl], Below.refl _ _⟩
  · have b0 : (z == 0) = false := by rw [beq_eq_false_iff_ne]; exact h0
    have HZ := Lib.hid h0
    clear h0
    go_enter Tryd.func22, Tryd.ntmps22
    go_wp2_with fail
    go_loopw [3, 4] (fun vD vz wr => ∃ (x : Int) (D : Bs), vz = .int .i64 x ∧ -9223372036854775808 ≤ x ∧ x ≤ 9223372036854775807 ∧ Hid (OwnB wr w.heap.size vD (toJ D) ∧ Below w.heap.size w wr ∧ lowD z = lowD x ++ D.reverse)) (fun _ vz _ => (intOf vz).natAbs)
    case atStart => exact ⟨z, [], rfl, h1, h2, OwnB.nil _ _, Below.refl _ _, by simp⟩
    case round =>
      obtain ⟨x, D, rfl, hx1, hx2, HH⟩ := hrel
      obtain ⟨V, hV⟩ : ∃ V, V = wr := ⟨_, rfl⟩
      rw [← hV] at HH
      rw [← hV]
      clear hV
      by_cases hx0 : x = 0
      · subst hx0
        have hlz : lowD z = D.reverse := by rw [HH.out.2.2]; rfl
        have HL : D.length ≤ 21 := by
          have e := congrArg List.length hlz
          rw [List.length_reverse] at e
          have := lowD_len h1 h2
          omega
        have hO := HH.out.1
        have HB := Lib.hid HH.out.2.1
        obtain ⟨pre, hpre⟩ : ∃ pre : Bs, pre = if z < 0 then [45] else [] := ⟨_, rfl⟩
        have HI := Lib.hid (show bsB (pre ++ D.reverse) = dgs z by unfold dgs; rw [lowD_itoa HZ.out, hlz, hpre])
        have hpl : pre.length ≤ 1 := by rw [hpre]; split <;> simp
        have HP := Lib.hid hpre
        clear hpre HH
        rcases hO.2 with ⟨-, hnil⟩ | ⟨g, cap, cur, rfl, -, -, hnc, hmc, hc, -⟩
        · exfalso
          rw [List.length_map] at hnil
          have hD : D = [] := List.eq_nil_of_length_eq_zero hnil
          rw [hD] at hlz
          have h3 := lowD_step HZ.out
          rw [hlz] at h3
          simp at h3
        obtain ⟨m, hm⟩ : ∃ m, m = D.length := ⟨_, rfl⟩
        have HC := Lib.hid (fun (j : Nat) (b : UInt8) (hb : D[j]? = some b) => show V.cell? ⟨g, j, none⟩ = some (.int .u8 b.toNat) by have := World.ownsRow.cells hO (g := g) rfl j (.int .u8 b.toNat) (by simp [toJ, hb]); rw [Addr.add] at this; (try split at this) <;> simp_all)
        have hlen : (toJ D).length = m := by rw [List.length_map]; exact hm.symm
        have hml : m ≤ 21 := by rw [hm]; exact HL
        rw [hlen] at hnc
        rw [hlen]
        unfold maxLen at hmc
        have hwm : wrap64 ((m : Int) - 1) = (m : Int) - 1 := by unfold wrap64; omega
        have HM := Lib.hid hm
        clear hm hlz hO hlen hc HL
        go_upto_if 28 with fail
        go_cut [6] (fun v6 wc => v6 = .string (bsB pre) ∧ V = wc)
        case first =>
          have hpre := HP.out
          by_cases hs : z < 0
          · rw [if_pos hs] at hpre
            subst hpre
            go_wp2_with fail
            go_meet
            exact ⟨rfl, rfl⟩
          · rw [if_neg hs] at hpre
            subst hpre
            go_wp2_with fail
            go_meet
            exact ⟨rfl, rfl⟩
        case rest =>
          obtain ⟨rfl, rfl⟩ := hcut
          go_wp2_with fail
          go_loopw [6, 7] (fun v6 v7 wr => ∃ (T : ByteArray) (j : Nat), v6 = .string T ∧ v7 = .int .i64 ((j : Int) - 1) ∧ j ≤ m ∧ T.size ≤ 40 ∧ Hid (T = bsB (pre ++ (D.drop j).reverse)) ∧ V = wr) (fun _ v7 _ => (intOf v7 + 1).toNat)
          case atStart => exact ⟨bsB pre, m, rfl, rfl, Nat.le_refl _, by (show pre.length ≤ 40; omega), by (show bsB pre = _; rw [HM.out, List.drop_length]; simp), rfl⟩
          case round =>
            obtain ⟨T, j, rfl, rfl, hj, hT, HT, rfl⟩ := hrel
            rcases j with _ | i
            · have HTT := Lib.hid (show T = dgs z by rw [HT.out, List.drop_zero]; exact HI.out)
              clear HT
              go_wp2_with fail
              refine bodyPost_ret (v := .string T) (by simp [results, Tryd.results22, go_sem]) rfl ⟨by rw [HTT.out], HB.out⟩
            · obtain ⟨b, hb⟩ : ∃ b, D[i]? = some b := ⟨_, List.getElem?_eq_getElem (by rw [← HM.out]; omega)⟩
              have hcell := HC.out i b hb
              have hconv := fun c => conv_one (w := V) (c := c) hcell
              have HT2 := Lib.hid (show T ++ (⟨#[b]⟩ : ByteArray) = bsB (pre ++ (D.drop i).reverse) by rw [HT.out, drop_snoc_text hb, ← List.append_assoc]; exact bsB_add _ [b])
              have hsz : (T ++ (⟨#[b]⟩ : ByteArray)).size ≤ 40 := by
                rw [HT2.out]
                show (pre ++ (D.drop i).reverse).length ≤ 40
                rw [List.length_append, List.length_reverse, List.length_drop]
                have := HM.out
                omega
              have e1 : (((i + 1 : Nat) : Int) - 1) = (i : Int) := by omega
              rw [e1]
              clear hb HT e1
              have hw1 : wrap64 ((i : Int) + 1) = (i : Int) + 1 := by unfold wrap64; omega
              have hw2 : wrap64 ((i : Int) - 1) = (i : Int) - 1 := by unfold wrap64; omega
              have hci : ¬ cap = i := by omega
              have hi1 : ((i : Int) + 1).toNat - i = 1 := by omega
              go_wp2_with fail
              go_roundw
              case rel => exact ⟨T ++ (⟨#[b]⟩ : ByteArray), i, rfl, rfl, by omega, hsz, HT2, trivial⟩
              case measure => simp [intOf] <;> omega
      · have bx : (x == 0) = false := by rw [beq_eq_false_iff_ne]; exact hx0
        have bn : (x != 0) = true := by simpa using hx0
        obtain ⟨k, hk⟩ : ∃ k, k = x.natAbs % 10 := ⟨_, rfl⟩
        have hk10 : k < 10 := by omega
        obtain ⟨r, hr⟩ : ∃ r, x.tmod 10 = r := ⟨_, rfl⟩
        have htm := Lib.hid ((hr.symm.trans (tmod_abs x)).trans (by rw [← hk]))
        have HS := Lib.hid (lowD_step hx0)
        rw [← hk] at HS
        have HQ := Lib.hid (show -9223372036854775808 ≤ x.tdiv 10 ∧ x.tdiv 10 ≤ 9223372036854775807 ∧ (x.tdiv 10).natAbs < x.natAbs by
          have e : (x.tdiv 10).natAbs = x.natAbs / 10 := by rw [Int.natAbs_tdiv]; rfl
          omega)
        clear hk hx0
        go_upto_if 16 with fail
        go_cut [5] (fun v5 wc => v5 = .int .i64 (k : Int) ∧ V = wc)
        case first =>
          by_cases hs : x < 0
          · have htm := htm.out
            rw [if_pos hs] at htm
            by_cases h0 : k = 0
            · subst h0
              go_wp2_with fail
              go_meet
              exact ⟨by go_num, rfl⟩
            · go_wp2_with fail
              go_meet
              exact ⟨by go_num, rfl⟩
          · have htm := htm.out
            rw [if_neg hs] at htm
            go_wp2_with fail
            go_meet
            exact ⟨by go_num, rfl⟩
        case rest =>
          obtain ⟨rfl, rfl⟩ := hcut
          have HO := HH.out.1
          obtain ⟨vp, vn, vc, rfl⟩ := HO.slice
          have HL := Lib.hid (show D.length ≤ 21 by
            have e := congrArg List.length HH.out.2.2
            rw [List.length_append, List.length_reverse] at e
            have := lowD_len h1 h2
            omega)
          obtain ⟨q, hq⟩ : ∃ q, x.tdiv 10 = q := ⟨_, rfl⟩
          rw [hq] at HQ HS
          clear hr htm
          have HJ := Lib.hid (show toJ D ++ [48 + (k : Int)] = toJ (D ++ [UInt8.ofNat (48 + k)]) by rw [toJ_app]; simp [toJ, UInt8.toNat_ofNat']; omega)
          go_wp2_with (at_builtin; refine wp_append_byte2 rfl _ _ rfl w.heap.size _ _ rfl (HO.later ?k1) (48 + (k : Int)) _ _ rfl ?k2 ?k3 ?k4 ?_)
          case k1 => (repeat (first | exact ext_refl _ | assumption | (refine ext_alloc ?_ _) | (refine ext_drewN ?_ _) | refine ext_drew ?_ | (refine ext_set (by first | (simp; done) | (simp; omega)) _ ?_) | (refine ext_trans ?_ (by assumption))))
          case k2 => simp [go_sem]
          case k3 => rw [List.length_map]; have := HL.out; omega
          case k4 => have := HH.out.2.1.size; simp; omega
          intro v2 w2 HO2 hg2 hb2
          rw [HJ.out] at HO2
          obtain ⟨vp2, vn2, vc2, rfl⟩ := HO2.slice
          have hbn : Below w.heap.size w w2 := Below.trans (ext_alloc HH.out.2.1 _) hb2
          have HN := Lib.hid (And.intro HO2 (And.intro hbn (show lowD z = lowD q ++ (D ++ [UInt8.ofNat (48 + k)]).reverse by rw [HH.out.2.2, HS.out]; simp)))
          clear HO2 hbn hg2 hb2 HO HH HJ
          go_wp2_with fail
          have hw : wrap64 q = q := by obtain ⟨q1, q2, q3⟩ := HQ.out; unfold wrap64; omega
          go_roundw
          case rel => exact ⟨q, D ++ [UInt8.ofNat (48 + k)], by rw [hw], HQ.out.1, HQ.out.2.1, HN.out⟩
          case measure => rw [hw]; have := HQ.out.2.2; simp [intOf] <;> omega
open Go.RowKit Go.Deep
set_option maxRecDepth 100000
set_option maxHeartbeats 4000000 in
theorem rprint_leaf (op : Int) (v : Val) (rel col n : Int) (s : ByteArray) (q : Option Addr) (c : Nat) (w : World) (hh : headOk op v rel col n s 0 = true) (hv : inR v.n = true) :
    Calls Tryd.prog 9 #[.agg (exCells op v rel col n s q 0 c).toArray] w fun e w' => e = .returned (.string (bsB (Ex.mk op v rel col n s []).print)) ∧ Below w.heap.size w w' := by
  have HH := Lib.hid hh
  have HV := Lib.hid hv
  have hs := (head_shape hh).2
  clear hh hv
  have E0 := EB.new w op v rel col n s q 0 c 26
  have B0 : Below w.heap.size w (w.alloc (.cells (exCells op v rel col n s q 0 c).toArray 26)) := ext_alloc (ext_refl _) _
  obtain ⟨W, hW⟩ : ∃ W, W = w.alloc (.cells (exCells op v rel col n s q 0 c).toArray 26) := ⟨_, rfl⟩
  rw [← hW] at E0 B0
  go_enter Tryd.func9, Tryd.ntmps9
  go_upto_region 1 with fail
  rw [← hW]
  clear hW
  obtain ⟨g, hg⟩ : ∃ g, g = w.heap.size := ⟨_, rfl⟩
  have HB := Lib.hid B0
  have HGW := Lib.hid hg
  rw [← hg] at E0
  rw [← hg]
  clear B0 hg
  have HE := Lib.hid E0
  obtain ⟨lt, c0, c1, c2, c3, c4, c5, c6, c7, c8⟩ := E0
  rcases hs with ⟨rfl, -, -, -, -, hr⟩ | ⟨rfl, -, -, -⟩ | ⟨rfl, -, -, -, -⟩ | ⟨h4, -, -, -, -, -, hw⟩
  · obtain ⟨k, m, t⟩ := v
    have HS := Lib.hid (size_inR hr)
    have hs := right_shape hr
    have hv := HV.out
    clear hr
    simp only at hs hv c1 c2 c3
    have i1 := (inR_iff.1 hv).1
    have i2 := (inR_iff.1 hv).2
    rcases hs with ⟨rfl, -, -⟩ | ⟨rfl, -⟩ | ⟨rfl, -⟩ | ⟨rfl, -⟩
    · go_wp2_with fail
      refine bodyPost_ret (v := .string ⟨#[78]⟩) (by simp [results, Tryd.results9, go_sem]) rfl ⟨by rw [print_leaf1]; rfl, HB.out⟩
    · have HP := Lib.hid (show (Ex.mk 1 ⟨1, m, t⟩ rel col n s []).print = 73 :: Lib.itoa m by rw [print_leaf1]; unfold printV; simp)
      have HI := Lib.hid (fun w => digits_any m i1 i2 w)
      have hl := dgs_le m hv
      obtain ⟨D, hD⟩ : ∃ D, D = dgs m := ⟨_, rfl⟩
      rw [← hD] at hl HI
      have g0 : ¬ 9223372036854775807 < 1 + D.size := by omega
      have HQ := Lib.hid (show (⟨#[73]⟩ : ByteArray) ++ D = bsB (73 :: Lib.itoa m) by rw [hD]; exact cat2 73 m)
      clear hl hD
      go_wp2_with fail
      refine (HI.out _).mono ?_
      rintro e X ⟨rfl, hbX⟩
      have HBX := Lib.hid (HB.out.trans (hbX.mono HB.out.size))
      clear hbX lt c0 c1 c2 c3 c4 c5 c6 c7 c8
      go_wp2_with fail
      refine bodyPost_ret (v := .string (⟨#[73]⟩ ++ D)) (by simp [results, Tryd.results9, go_sem]) rfl ⟨by rw [HQ.out, HP.out], HBX.out⟩
    · have HP := Lib.hid (show (Ex.mk 1 ⟨2, m, t⟩ rel col n s []).print = 66 :: Lib.itoa m by rw [print_leaf1]; unfold printV; simp)
      have HI := Lib.hid (fun w => digits_any m i1 i2 w)
      have hl := dgs_le m hv
      obtain ⟨D, hD⟩ : ∃ D, D = dgs m := ⟨_, rfl⟩
      rw [← hD] at hl HI
      have g0 : ¬ 9223372036854775807 < 1 + D.size := by omega
      have HQ := Lib.hid (show (⟨#[66]⟩ : ByteArray) ++ D = bsB (66 :: Lib.itoa m) by rw [hD]; exact cat2 66 m)
      clear hl hD
      go_wp2_with fail
      refine (HI.out _).mono ?_
      rintro e X ⟨rfl, hbX⟩
      have HBX := Lib.hid (HB.out.trans (hbX.mono HB.out.size))
      clear hbX lt c0 c1 c2 c3 c4 c5 c6 c7 c8
      go_wp2_with fail
      refine bodyPost_ret (v := .string (⟨#[66]⟩ ++ D)) (by simp [results, Tryd.results9, go_sem]) rfl ⟨by rw [HQ.out, HP.out], HBX.out⟩
    · have HP := Lib.hid (show (Ex.mk 1 ⟨3, m, t⟩ rel col n s []).print = 84 :: Lib.itoa t.size ++ [58] ++ t.data.toList by rw [print_leaf1]; unfold printV; simp)
      obtain ⟨hi, hsl⟩ := HS.out rfl
      have HI3 := Lib.hid (fun (x : After W) => calls_after (digits_any t.size (inR_iff.1 hi).1 (inR_iff.1 hi).2 x.W))
      have hl := dgs_le t.size hi
      obtain ⟨D, hD⟩ : ∃ D, D = dgs t.size := ⟨_, rfl⟩
      rw [← hD] at hl HI3
      have g0 : ¬ 9223372036854775807 < 1 + D.size := by omega
      have g1 : ¬ 9223372036854775807 < 1 + D.size + 1 := by omega
      have g2 : ¬ 9223372036854775807 < 1 + D.size + 1 + t.size := by omega
      have HD := Lib.hid (show (⟨#[84]⟩ : ByteArray) ++ D ++ ⟨#[58]⟩ ++ t = bsB (84 :: Lib.itoa t.size ++ [58] ++ t.data.toList) by rw [hD]; exact cat4 84 58 t.size t)
      clear hl hsl hD hi
      go_upto_region 10 with fail
      have r3 := fun (x : After W) => (x.cell g 3 lt).trans c3
      have is := After.some W
      refine wp_region_after (by kernel_rfl) (by kernel_rfl) ?_
      repeat (quiet_step ((go_at_call 22; exact HI3.out _)))
      refine wpQuiet_nil ?_
      intro Wq hw
      obtain ⟨⟨Wq, hbq⟩, rfl⟩ := hw
      go_wp2_with fail
      refine bodyPost_ret (v := .string (⟨#[84]⟩ ++ D ++ ⟨#[58]⟩ ++ t)) (by simp [results, Tryd.results9, go_sem]) rfl ⟨by rw [HP.out, HD.out], HB.out.trans (hbq.mono HB.out.size)⟩
  · have h1 := rel_ok HH.out rfl
    have h2 := dcol_ok HH.out rfl
    have i1 := inR_small h1.1 (by omega : rel ≤ 100)
    have i2 := inR_small h2.1 (by omega : col ≤ 100)
    have HI1 := Lib.hid (fun (x : After W) => calls_after (digits_any rel (inR_iff.1 i1).1 (inR_iff.1 i1).2 x.W))
    have HI2 := Lib.hid (fun (x : After W) => calls_after (digits_any col (inR_iff.1 i2).1 (inR_iff.1 i2).2 x.W))
    have hl := dgs_le rel i1
    have hl2 := dgs_le col i2
    obtain ⟨D, hD⟩ : ∃ D, D = dgs rel := ⟨_, rfl⟩
    obtain ⟨E, hE⟩ : ∃ E, E = dgs col := ⟨_, rfl⟩
    rw [← hD] at hl HI1
    rw [← hE] at hl2 HI2
    have g0 : ¬ 9223372036854775807 < 1 + D.size := by omega
    have g1 : ¬ 9223372036854775807 < 1 + D.size + 1 := by omega
    have g2 : ¬ 9223372036854775807 < 1 + D.size + 1 + E.size := by omega
    have HQ := Lib.hid (show (⟨#[82]⟩ : ByteArray) ++ D ++ ⟨#[46]⟩ ++ E = bsB (82 :: Lib.itoa rel ++ [46] ++ Lib.itoa col) by rw [hD, hE]; exact cat4 82 46 rel (dgs col))
    have r4 := fun (x : After W) => (x.cell g 4 lt).trans c4
    have r5 := fun (x : After W) => (x.cell g 5 lt).trans c5
    clear h1 h2 i1 i2 hl hl2 hD hE
    go_upto_region 12 with fail
    have is := After.some W
    refine wp_region_after (by kernel_rfl) (by kernel_rfl) ?_
    repeat (quiet_step ((go_at_call 22; first | with_reducible exact HI1.out _ | with_reducible exact HI2.out _)))
    refine wpQuiet_nil ?_
    intro Wq hw
    obtain ⟨⟨Wq, hbq⟩, rfl⟩ := hw
    go_wp2_with fail
    refine bodyPost_ret (v := .string (⟨#[82]⟩ ++ D ++ ⟨#[46]⟩ ++ E)) (by simp [results, Tryd.results9, go_sem]) rfl ⟨by rw [HQ.out, print_ref], HB.out.trans (hbq.mono HB.out.size)⟩
  · have h1 := n_ok HH.out rfl
    have i1 := inR_small (show 0 ≤ n by omega) (by omega : n ≤ 100)
    have HP := Lib.hid (print_par (v := v) (rel := rel) (col := col) (n := n) (s := s) (l := []))
    have HI := Lib.hid (fun w => digits_any n (inR_iff.1 i1).1 (inR_iff.1 i1).2 w)
    have hl := dgs_le n i1
    obtain ⟨D, hD⟩ : ∃ D, D = dgs n := ⟨_, rfl⟩
    rw [← hD] at hl HI
    have g0 : ¬ 9223372036854775807 < 1 + D.size := by omega
    have HQ := Lib.hid (show (⟨#[80]⟩ : ByteArray) ++ D = bsB (80 :: Lib.itoa n) by rw [hD]; exact cat2 80 n)
    clear hl hD
    go_wp2_with fail
    refine (HI.out _).mono ?_
    rintro e X ⟨rfl, hbX⟩
    have HBX := Lib.hid (HB.out.trans (hbX.mono HB.out.size))
    clear hbX lt c0 c1 c2 c3 c4 c5 c6 c7 c8
    go_wp2_with fail
    refine bodyPost_ret (v := .string (⟨#[80]⟩ ++ D)) (by simp [results, Tryd.results9, go_sem]) rfl ⟨by rw [HQ.out, HP.out], HBX.out⟩
  · exfalso
    unfold wantsOf at hw
    split at hw
    · omega
    · split at hw
      · omega
      · split at hw <;> omega
open Go.RowKit Go.Deep
set_option maxRecDepth 100000
theorem printL_take_le (l : List Ex) (i : Nat) : (printL (l.take i)).length ≤ (printL l).length := by
  have h := printL_append (l.take i) (l.drop i)
  rw [List.take_append_drop] at h
  rw [h, List.length_append]
  omega
set_option maxHeartbeats 4000000 in
theorem rprint_op (op : Int) (v : Val) (rel col n : Int) (s : ByteArray) (l : List Ex) (q : Option Addr) (c : Nat) (w : World) (h4 : 4 ≤ op) (h18 : op ≤ 100) (hlm : l.length ≤ 100) (hpl : (printL l).length ≤ 40000) (hl : ExL w q 0 l)
    (IH : ∀ y ∈ l, ∀ (cs : List Value) (w : World), ExM w y cs → Calls Tryd.prog 9 #[.agg cs.toArray] w fun e w' => e = .returned (.string (bsB y.print)) ∧ Below w.heap.size w w') :
    Calls Tryd.prog 9 #[.agg (exCells op v rel col n s q l.length c).toArray] w fun e w' => e = .returned (.string (bsB (Ex.mk op v rel col n s l).print)) ∧ Below w.heap.size w w' := by
  have HL := Lib.hid hl
  have HI := Lib.hid IH
  obtain ⟨len, hlen⟩ : ∃ len, len = l.length := ⟨_, rfl⟩
  rw [← hlen] at hlm ⊢
  have HLEN := Lib.hid hlen
  have HPL := Lib.hid hpl
  have b1 : (op == 1) = false := by rw [beq_eq_false_iff_ne]; omega
  have b2 : (op == 2) = false := by rw [beq_eq_false_iff_ne]; omega
  have b3 : (op == 3) = false := by rw [beq_eq_false_iff_ne]; omega
  have i1 := inR_small (show 0 ≤ op by omega) h18
  have HD := Lib.hid (fun w => digits_any op (inR_iff.1 i1).1 (inR_iff.1 i1).2 w)
  have hdl := dgs_le op i1
  have HPR := Lib.hid (print_op (v := v) (rel := rel) (col := col) (n := n) (s := s) (l := l) h4)
  have HIL := Lib.hid (itoa_le i1)
  clear hlen hl IH hpl i1
  have E0 := EB.new w op v rel col n s q len c 26
  have B0 : Below w.heap.size w (w.alloc (.cells (exCells op v rel col n s q len c).toArray 26)) := ext_alloc (ext_refl _) _
  obtain ⟨W, hW⟩ : ∃ W, W = w.alloc (.cells (exCells op v rel col n s q len c).toArray 26) := ⟨_, rfl⟩
  rw [← hW] at E0 B0
  go_enter Tryd.func9, Tryd.ntmps9
  go_upto_region 1 with fail
  rw [← hW]
  clear hW
  obtain ⟨g, hg⟩ : ∃ g, g = w.heap.size := ⟨_, rfl⟩
  have HB := Lib.hid B0
  have HGW := Lib.hid hg
  rw [← hg] at E0
  rw [← hg]
  clear B0 hg
  have HE := Lib.hid E0
  obtain ⟨lt, c0, c1, c2, c3, c4, c5, c6, c7, c8⟩ := E0
  obtain ⟨D, hD⟩ : ∃ D, D = dgs op := ⟨_, rfl⟩
  rw [← hD] at HD hdl
  have g0 : ¬ 9223372036854775807 < 1 + D.size := by omega
  have HC := Lib.hid (show (⟨#[40]⟩ : ByteArray) ++ D = bsB (40 :: Lib.itoa op) by rw [hD]; exact cat2 40 op)
  clear hD h4 h18
  go_wp2_with fail
  refine (HD.out _).mono ?_
  rintro e M ⟨rfl, hbM⟩
  have HBM := Lib.hid (HB.out.trans (hbM.mono HB.out.size))
  have HEM := Lib.hid (HE.out.on hbM)
  clear hbM lt c0 c1 c2 c3 c4 c5 c6 c7 c8 HB HE b1 b2 b3
  obtain ⟨lt, c0, c1, c2, c3, c4, c5, c6, c7, c8⟩ := HEM.out
  go_wp2_with fail
  go_loopw [3, 4] (fun vt vi wr => ∃ (T : ByteArray) (i : Nat), vt = .string T ∧ vi = .int .i64 i ∧ i ≤ len ∧ T.size ≤ 40022 ∧ Hid (T = bsB (40 :: Lib.itoa op ++ printL (l.take i))) ∧ Hid (EB wr g op v rel col n s q len c ∧ Below w.heap.size w wr)) (fun _ vi _ => len - (intOf vi).toNat)
  case atStart => exact ⟨⟨#[40]⟩ ++ D, 0, rfl, rfl, by omega, by rw [HC.out]; show (40 :: Lib.itoa op).length ≤ _; have := HIL.out; simp; omega, by (show _ = _; rw [HC.out, List.take_zero, printL, List.append_nil]), HEM.out, HBM.out⟩
  case round =>
    obtain ⟨T, i, rfl, rfl, hi, hT, HT, hE⟩ := hrel
    obtain ⟨V, hV⟩ : ∃ V, V = wr := ⟨_, rfl⟩
    rw [← hV] at hE
    rw [← hV]
    have HEV := Lib.hid hE.out.1
    have HBV := Lib.hid hE.out.2
    have HT := Lib.hid HT.out
    clear hV hE lt c0 c1 c2 c3 c4 c5 c6 c7 c8 HEM HBM
    obtain ⟨lt, c0, c1, c2, c3, c4, c5, c6, c7, c8⟩ := HEV.out
    by_cases hlt : i < len
    · obtain ⟨y, hy⟩ : ∃ y, l[i]? = some y := ⟨_, List.getElem?_eq_getElem (by rw [← HLEN.out]; exact hlt)⟩
      have hl_ := ExL.at_ (ExL.ext HBV.out _ _ _ HL.out) hy
      obtain ⟨g0, off0, cs0, hq0, hg0, hx0, hcell⟩ := hl_
      subst hq0
      have HX0 := Lib.hid hx0
      have HIY := Lib.hid (HI.out y (List.mem_of_getElem? hy))
      have HS := Lib.hid (printL_step hy)
      clear hy
      obtain ⟨P, hP⟩ : ∃ P, P = y.print := ⟨_, rfl⟩
      rw [← hP] at HIY HS
      have hsz : (T ++ (⟨#[32]⟩ : ByteArray) ++ bsB P).size ≤ 40022 := by
        have e : T ++ (⟨#[32]⟩ : ByteArray) ++ bsB P = bsB (40 :: Lib.itoa op ++ printL (l.take i) ++ [32] ++ P) := by
          rw [HT.out]
          exact (congrArg (· ++ bsB P) (bsB_add _ [32])).trans (bsB_add _ P)
        rw [e]
        show (40 :: Lib.itoa op ++ printL (l.take i) ++ [32] ++ P).length ≤ _
        have h1 := printL_take_le l (i + 1)
        rw [HS.out] at h1
        have h2 := HPL.out
        have h3 := HIL.out
        simp at h1 ⊢
        omega
      have HT2 := Lib.hid (show T ++ (⟨#[32]⟩ : ByteArray) ++ bsB P = bsB (40 :: Lib.itoa op ++ printL (l.take (i + 1))) by
        rw [HT.out, HS.out]
        refine ((congrArg (· ++ bsB P) (bsB_add _ [32])).trans (bsB_add _ P)).trans ?_
        simp)
      obtain ⟨B, hB⟩ : ∃ B, B = bsB P := ⟨_, rfl⟩
      rw [← hB] at hsz HT2 HIY
      have hs1 : ¬ 9223372036854775807 < T.size + 1 := by omega
      have hs2 : ¬ 9223372036854775807 < T.size + 1 + B.size := by rw [ByteArray.size_append, ByteArray.size_append] at hsz; have : (⟨#[32]⟩ : ByteArray).size = 1 := rfl; omega
      clear hP hB HT HS
      obtain ⟨op1, v1, rel1, col1, n1, s1, l1⟩ := y
      rw [ExM.iff] at hx0
      obtain ⟨-, qq0, cc0, rfl, -, -⟩ := hx0
      have f0 := hcell 0 _ rfl
      have f1 := hcell 1 _ rfl
      have f2 := hcell 2 _ rfl
      have f3 := hcell 3 _ rfl
      have f4 := hcell 4 _ rfl
      have f5 := hcell 5 _ rfl
      have f6 := hcell 6 _ rfl
      have f7 := hcell 7 _ rfl
      have f8 := hcell 8 _ rfl
      simp only [Nat.zero_add, Nat.add_zero] at f0 f1 f2 f3 f4 f5 f6 f7 f8
      clear hcell
      go_wp2_with fail
      refine (HIY.out _ V HX0.out).mono ?_
      rintro e Y ⟨rfl, hb⟩
      have HBY := Lib.hid (HBV.out.trans (hb.mono HBV.out.size))
      have HEY := Lib.hid (HEV.out.on hb)
      clear hb lt c0 c1 c2 c3 c4 c5 c6 c7 c8 f0 f1 f2 f3 f4 f5 f6 f7 f8
      go_wp2_with fail
      go_roundw
      case rel => exact ⟨T ++ (⟨#[32]⟩ : ByteArray) ++ B, i + 1, rfl, by go_num, hlt, hsz, HT2, HEY.out, HBY.out⟩
      case measure => simp [intOf] <;> omega
    · have HZ := Lib.hid (show T ++ (⟨#[41]⟩ : ByteArray) = bsB (Ex.mk op v rel col n s l).print by
        rw [HPR.out, HT.out, show i = l.length by rw [← HLEN.out]; omega, List.take_length]
        exact bsB_add _ [41])
      have hs1 : ¬ 9223372036854775807 < T.size + 1 := by omega
      clear HT
      go_wp2_with fail
      refine bodyPost_ret (v := .string (T ++ ⟨#[41]⟩)) (by simp [results, Tryd.results9, go_sem]) rfl ⟨by rw [HZ.out], HBV.out⟩
theorem count_mem {l : List Ex} {y : Ex} (h : y ∈ l) : y.count ≤ countL l := by
  obtain ⟨i, hi, he⟩ := List.getElem_of_mem h
  have h1 := countL_step (l := l) (i := i) (x := y) (by rw [List.getElem?_eq_getElem hi, he])
  have h2 := countL_le l (i + 1)
  omega
theorem op_four {op : Int} {v : Val} {rel col n : Int} {s : ByteArray} {len : Nat} (h : headOk op v rel col n s len = true) (hl : 0 < len) : 4 ≤ op := by
  have h1 := (head_shape h).2
  rcases h1 with h | h | h | h
  all_goals omega
theorem rprint_any : ∀ (k : Nat) (x : Ex), x.deep ≤ k → x.okAll = true → x.count ≤ 200 → ∀ (cs : List Value) (w : World), ExM w x cs → Calls Tryd.prog 9 #[.agg cs.toArray] w fun e w' => e = .returned (.string (bsB x.print)) ∧ Below w.heap.size w w'
  | 0, x, h, _, _ => absurd (deep_pos x) (by omega)
  | k + 1, .mk op v rel col n s l, h, ho, hc => fun cs w hx => by
    have hpl := print_len _ cs hx ho
    rw [Ex.okAll, Bool.and_eq_true] at ho
    rw [Ex.deep] at h
    rw [Ex.count] at hc hpl
    have IH : ∀ y ∈ l, ∀ (cs : List Value) (w : World), ExM w y cs → Calls Tryd.prog 9 #[.agg cs.toArray] w fun e w' => e = .returned (.string (bsB y.print)) ∧ Below w.heap.size w w' := fun y hy => rprint_any k y (by have := deepL_of_mem hy; omega) (by obtain ⟨i, hi, he⟩ := List.getElem_of_mem hy; exact okL_all ho.2 (i := i) (by rw [List.getElem?_eq_getElem hi, he])) (by have := count_mem hy; omega)
    rw [ExM.iff] at hx
    obtain ⟨hv, q, c, rfl, -, hl⟩ := hx
    by_cases h0 : 0 < l.length
    · have h4 := op_four ho.1 h0
      have hr := op_range ho.1
      have h2 := head_two ho.1
      refine rprint_op op v rel col n s l q c w h4 (by omega) (by omega) ?_ hl IH
      rw [print_op h4] at hpl
      simp at hpl
      omega
    · obtain rfl : l = [] := List.eq_nil_of_length_eq_zero (by omega)
      exact rprint_leaf op v rel col n s q c w ho.1 hv.2.1
end Go.Proofs.YtklgoajgchfmeaaDoor
