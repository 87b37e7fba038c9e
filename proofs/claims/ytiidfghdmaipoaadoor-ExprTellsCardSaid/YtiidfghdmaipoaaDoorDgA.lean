/- The reference's text of a number. -/
import Derived.Test.YtiidfghdmaipoaaDoorTxE
namespace Go.Proofs.YtiidfghdmaipoaaDoor
open Go.RowKit Go.Deep
open Go.Lib (decDigits)
set_option maxRecDepth 100000

/-- What is still to be told of a number. -/
def lowD (z : Int) : Bs := if z = 0 then [] else decDigits z.natAbs
theorem lowD_step {z : Int} (h : z ≠ 0) : lowD z = lowD (z.tdiv 10) ++ [UInt8.ofNat (48 + z.natAbs % 10)] := by
  have e : (z.tdiv 10).natAbs = z.natAbs / 10 := by rw [Int.natAbs_tdiv]; rfl
  unfold lowD
  rw [if_neg h]
  by_cases h10 : z.natAbs < 10
  · rw [if_pos (by omega), Lib.decDigits_one h10, Nat.mod_eq_of_lt h10]
    rfl
  · rw [if_neg (by omega), decDigits, dif_neg h10, e]
theorem lowD_itoa {z : Int} (h : z ≠ 0) : Lib.itoa z = (if z < 0 then [45] else []) ++ lowD z := by
  unfold Lib.itoa lowD
  rw [if_neg h]
  by_cases h0 : z < 0
  · rw [if_pos h0, if_pos h0]; rfl
  · rw [if_neg h0, if_neg h0, show z.toNat = z.natAbs by omega]; rfl
theorem tmod_abs (z : Int) : z.tmod 10 = (if z < 0 then -((z.natAbs % 10 : Nat) : Int) else ((z.natAbs % 10 : Nat) : Int)) := by
  by_cases h : z < 0
  · rw [if_pos h]
    have e : z = -(z.natAbs : Int) := by omega
    conv => lhs; rw [e]
    rw [Int.neg_tmod, Int.tmod_eq_emod_of_nonneg (by omega)]
    rfl
  · rw [if_neg h]
    have e : z = (z.natAbs : Int) := by omega
    conv => lhs; rw [e]
    rw [Int.tmod_eq_emod_of_nonneg (by omega)]
    rfl
theorem lowD_len {z : Int} (h1 : -9223372036854775808 ≤ z) (h2 : z ≤ 9223372036854775807) : (lowD z).length ≤ 21 := by
  by_cases h : z = 0
  · subst h; simp [lowD]
  · have h3 := Lib.itoa_length_le z h1 h2
    rw [lowD_itoa h, List.length_append] at h3
    omega
/-- One byte of a slice, as a text. -/
theorem conv_one {w : World} {g i c : Nat} {b : UInt8} (h : w.cell? ⟨g, i, none⟩ = some (.int .u8 b.toNat)) : (convert 47 9 (.slice (some ⟨g, i, none⟩) 1 c)).run Tryd.prog w = .ok (.string ⟨#[b]⟩) w := by
  rw [run_convert_bytes_string w 47 9 5 _ _ _ Tryd.underlying47 Tryd.underlying5 Tryd.underlying9]
  have hl : (loadCells ⟨g, i, none⟩ ([(b.toNat : Int)]).length).run Tryd.prog w = .ok (([(b.toNat : Int)]).map (Value.int .u8)).toArray w := by
    have := run_loadCells_list (P := Tryd.prog) w ⟨g, i, none⟩ (([(b.toNat : Int)]).map (Value.int .u8)) (fun j u hu => by
      match j, hu with
      | 0, hu => simp at hu; subst hu; simpa [Addr.add] using h)
    simpa using this
  refine (run_bytesToString w _ _ c [(b.toNat : Int)] hl).trans ?_
  simp [ByteArray.push]
theorem drop_snoc_text {D : Bs} {j : Nat} {b : UInt8} (h : D[j]? = some b) : (D.drop j).reverse = (D.drop (j + 1)).reverse ++ [b] := by
  obtain ⟨h1, rfl⟩ := List.getElem?_eq_some_iff.1 h
  rw [List.drop_eq_getElem_cons h1, List.reverse_cons]

set_option maxHeartbeats 4000000 in
theorem digits_any (z : Int) (h1 : -9223372036854775808 ≤ z) (h2 : z ≤ 9223372036854775807) (w : World) : Calls Tryd.prog 52 #[.int .i64 z] w fun e w' => e = .returned (.string (dgs z)) ∧ Below w.heap.size w w' := by
  by_cases h0 : z = 0
  · subst h0
    go_enter Tryd.func52, Tryd.ntmps52
    go_wp2
    refine bodyPost_ret (v := .string ⟨#[48]⟩) (by simp [results, Tryd.results52, go_sem]) rfl ⟨by rw [show dgs 0 = (⟨#[48]⟩ : ByteArray) by unfold dgs; rw [show Lib.itoa 0 = [UInt8.ofNat (48 + 0)] from (by rw [show (0 : Int) = ((0 : Nat) : Int) from rfl, Lib.itoa_nonneg, Lib.decDigits_one (by omega)])]; rfl], Below.refl _ _⟩
  · have b0 : (z == 0) = false := by rw [beq_eq_false_iff_ne]; exact h0
    have HZ := Lib.hid h0
    clear h0
    go_enter Tryd.func52, Tryd.ntmps52
    go_wp2_with fail
    go_loopw [3, 4] (fun vD vz wr => ∃ (x : Int) (D : Bs), vz = .int .i64 x ∧ -9223372036854775808 ≤ x ∧ x ≤ 9223372036854775807 ∧ Hid (OwnB wr w.heap.size vD (toJ D) ∧ Below w.heap.size w wr ∧ lowD z = lowD x ++ D.reverse)) (fun _ vz _ => (intOf vz).natAbs)
    case atStart => exact ⟨z, [], rfl, h1, h2, OwnB.nil _ _, Below.refl _ _, by simp⟩
    case round =>
      obtain ⟨x, D, rfl, hx1, hx2, HH⟩ := hrel
      obtain ⟨V, hV⟩ : ∃ V, V = wr := ⟨_, rfl⟩
      rw [← hV] at HH
      rw [← hV]
      clear hV
      by_cases hx0 : x = 0
      · subst hx0
        have hlz : lowD z = D.reverse := by rw [HH.out.2.2]; rfl
        have HL : D.length ≤ 21 := by
          have e := congrArg List.length hlz
          rw [List.length_reverse] at e
          have := lowD_len h1 h2
          omega
        have hO := HH.out.1
        have HB := Lib.hid HH.out.2.1
        obtain ⟨pre, hpre⟩ : ∃ pre : Bs, pre = if z < 0 then [45] else [] := ⟨_, rfl⟩
        have HI := Lib.hid (show bsB (pre ++ D.reverse) = dgs z by unfold dgs; rw [lowD_itoa HZ.out, hlz, hpre])
        have hpl : pre.length ≤ 1 := by rw [hpre]; split <;> simp
        have HP := Lib.hid hpre
        clear hpre HH
        rcases hO.2 with ⟨-, hnil⟩ | ⟨g, cap, cur, rfl, -, -, hnc, hmc, hc, -⟩
        · exfalso
          rw [List.length_map] at hnil
          have hD : D = [] := List.eq_nil_of_length_eq_zero hnil
          rw [hD] at hlz
          have h3 := lowD_step HZ.out
          rw [hlz] at h3
          simp at h3
        obtain ⟨m, hm⟩ : ∃ m, m = D.length := ⟨_, rfl⟩
        have HC := Lib.hid (fun (j : Nat) (b : UInt8) (hb : D[j]? = some b) => show V.cell? ⟨g, j, none⟩ = some (.int .u8 b.toNat) by have := World.ownsRow.cells hO (g := g) rfl j (.int .u8 b.toNat) (by simp [toJ, hb]); rw [Addr.add] at this; (try split at this) <;> simp_all)
        have hlen : (toJ D).length = m := by rw [List.length_map]; exact hm.symm
        have hml : m ≤ 21 := by rw [hm]; exact HL
        rw [hlen] at hnc
        rw [hlen]
        unfold maxLen at hmc
        have hwm : wrap64 ((m : Int) - 1) = (m : Int) - 1 := by unfold wrap64; omega
        have HM := Lib.hid hm
        clear hm hlz hO hlen hc HL
        go_upto_if 28 with fail
        go_cut [6] (fun v6 wc => v6 = .string (bsB pre) ∧ V = wc)
        case first =>
          have hpre := HP.out
          by_cases hs : z < 0
          · rw [if_pos hs] at hpre
            subst hpre
            go_wp2_with fail
            go_meet
            exact ⟨rfl, rfl⟩
          · rw [if_neg hs] at hpre
            subst hpre
            go_wp2_with fail
            go_meet
            exact ⟨rfl, rfl⟩
        case rest =>
          obtain ⟨rfl, rfl⟩ := hcut
          go_wp2_with fail
          go_loopw [6, 7] (fun v6 v7 wr => ∃ (T : ByteArray) (j : Nat), v6 = .string T ∧ v7 = .int .i64 ((j : Int) - 1) ∧ j ≤ m ∧ T.size ≤ 40 ∧ Hid (T = bsB (pre ++ (D.drop j).reverse)) ∧ V = wr) (fun _ v7 _ => (intOf v7 + 1).toNat)
          case atStart => exact ⟨bsB pre, m, rfl, rfl, Nat.le_refl _, by (show pre.length ≤ 40; omega), by (show bsB pre = _; rw [HM.out, List.drop_length]; simp), rfl⟩
          case round =>
            obtain ⟨T, j, rfl, rfl, hj, hT, HT, rfl⟩ := hrel
            rcases j with _ | i
            · have HTT := Lib.hid (show T = dgs z by rw [HT.out, List.drop_zero]; exact HI.out)
              clear HT
              go_wp2_with fail
              refine bodyPost_ret (v := .string T) (by simp [results, Tryd.results52, go_sem]) rfl ⟨by rw [HTT.out], HB.out⟩
            · obtain ⟨b, hb⟩ : ∃ b, D[i]? = some b := ⟨_, List.getElem?_eq_getElem (by rw [← HM.out]; omega)⟩
              have hcell := HC.out i b hb
              have hconv := fun c => conv_one (w := V) (c := c) hcell
              have HT2 := Lib.hid (show T ++ (⟨#[b]⟩ : ByteArray) = bsB (pre ++ (D.drop i).reverse) by rw [HT.out, drop_snoc_text hb, ← List.append_assoc]; exact bsB_add _ [b])
              have hsz : (T ++ (⟨#[b]⟩ : ByteArray)).size ≤ 40 := by
                rw [HT2.out]
                show (pre ++ (D.drop i).reverse).length ≤ 40
                rw [List.length_append, List.length_reverse, List.length_drop]
                have := HM.out
                omega
              have e1 : (((i + 1 : Nat) : Int) - 1) = (i : Int) := by omega
              rw [e1]
              clear hb HT e1
              have hw1 : wrap64 ((i : Int) + 1) = (i : Int) + 1 := by unfold wrap64; omega
              have hw2 : wrap64 ((i : Int) - 1) = (i : Int) - 1 := by unfold wrap64; omega
              have hci : ¬ cap = i := by omega
              have hi1 : ((i : Int) + 1).toNat - i = 1 := by omega
              go_wp2_with fail
              go_roundw
              case rel => exact ⟨T ++ (⟨#[b]⟩ : ByteArray), i, rfl, rfl, by omega, hsz, HT2, trivial⟩
              case measure => simp [intOf] <;> omega
      · have bx : (x == 0) = false := by rw [beq_eq_false_iff_ne]; exact hx0
        have bn : (x != 0) = true := by simpa using hx0
        obtain ⟨k, hk⟩ : ∃ k, k = x.natAbs % 10 := ⟨_, rfl⟩
        have hk10 : k < 10 := by omega
        obtain ⟨r, hr⟩ : ∃ r, x.tmod 10 = r := ⟨_, rfl⟩
        have htm := Lib.hid ((hr.symm.trans (tmod_abs x)).trans (by rw [← hk]))
        have HS := Lib.hid (lowD_step hx0)
        rw [← hk] at HS
        have HQ := Lib.hid (show -9223372036854775808 ≤ x.tdiv 10 ∧ x.tdiv 10 ≤ 9223372036854775807 ∧ (x.tdiv 10).natAbs < x.natAbs by
          have e : (x.tdiv 10).natAbs = x.natAbs / 10 := by rw [Int.natAbs_tdiv]; rfl
          omega)
        clear hk hx0
        go_upto_if 16 with fail
        go_cut [5] (fun v5 wc => v5 = .int .i64 (k : Int) ∧ V = wc)
        case first =>
          by_cases hs : x < 0
          · have htm := htm.out
            rw [if_pos hs] at htm
            by_cases h0 : k = 0
            · subst h0
              go_wp2_with fail
              go_meet
              exact ⟨by go_num, rfl⟩
            · go_wp2_with fail
              go_meet
              exact ⟨by go_num, rfl⟩
          · have htm := htm.out
            rw [if_neg hs] at htm
            go_wp2_with fail
            go_meet
            exact ⟨by go_num, rfl⟩
        case rest =>
          obtain ⟨rfl, rfl⟩ := hcut
          have HO := HH.out.1
          obtain ⟨vp, vn, vc, rfl⟩ := HO.slice
          have HL := Lib.hid (show D.length ≤ 21 by
            have e := congrArg List.length HH.out.2.2
            rw [List.length_append, List.length_reverse] at e
            have := lowD_len h1 h2
            omega)
          obtain ⟨q, hq⟩ : ∃ q, x.tdiv 10 = q := ⟨_, rfl⟩
          rw [hq] at HQ HS
          clear hr htm
          have HJ := Lib.hid (show toJ D ++ [48 + (k : Int)] = toJ (D ++ [UInt8.ofNat (48 + k)]) by rw [toJ_app]; simp [toJ, UInt8.toNat_ofNat']; omega)
          go_wp2_with (at_builtin; refine wp_append_byte2 rfl _ _ rfl w.heap.size _ _ rfl (HO.later ?k1) (48 + (k : Int)) _ _ rfl ?k2 ?k3 ?k4 ?_)
          case k1 => (repeat (first | exact ext_refl _ | assumption | (refine ext_alloc ?_ _) | (refine ext_drewN ?_ _) | refine ext_drew ?_ | (refine ext_set (by first | (simp; done) | (simp; omega)) _ ?_) | (refine ext_trans ?_ (by assumption))))
          case k2 => simp [go_sem]
          case k3 => rw [List.length_map]; have := HL.out; omega
          case k4 => have := HH.out.2.1.size; simp; omega
          intro v2 w2 HO2 hg2 hb2
          rw [HJ.out] at HO2
          obtain ⟨vp2, vn2, vc2, rfl⟩ := HO2.slice
          have hbn : Below w.heap.size w w2 := Below.trans (ext_alloc HH.out.2.1 _) hb2
          have HN := Lib.hid (And.intro HO2 (And.intro hbn (show lowD z = lowD q ++ (D ++ [UInt8.ofNat (48 + k)]).reverse by rw [HH.out.2.2, HS.out]; simp)))
          clear HO2 hbn hg2 hb2 HO HH HJ
          go_wp2_with fail
          have hw : wrap64 q = q := by obtain ⟨q1, q2, q3⟩ := HQ.out; unfold wrap64; omega
          go_roundw
          case rel => exact ⟨q, D ++ [UInt8.ofNat (48 + k)], by rw [hw], HQ.out.1, HQ.out.2.1, HN.out⟩
          case measure => rw [hw]; have := HQ.out.2.2; simp [intOf] <;> omega

end Go.Proofs.YtiidfghdmaipoaaDoor
