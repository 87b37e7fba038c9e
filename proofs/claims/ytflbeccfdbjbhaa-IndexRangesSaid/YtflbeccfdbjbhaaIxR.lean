/- Range: what lies between two values, in the order. -/
import Derived.Test.YtflbeccfdbjbhaaIxE
import Derived.Deep.CutBlock
import Derived.Deep.DeepCutAuto
namespace Go.Proofs.Ytflbeccfdbjbhaa
open Go.RowKit
set_option maxRecDepth 100000

set_option maxHeartbeats 4000000 in
theorem range_any (w : World) (N p : Nat) (l lo hi : List Val) (q1 q2 : Option Addr) (c1 c2 b1 b2 b3 b4 : Nat) (h : IxP w N p l) (hc1 : lo.length ≤ c1) (_ : c1 ≤ 9223372036854775807) (hc2 : hi.length ≤ c2) (_ : c2 ≤ 9223372036854775807) (hL : ValsA w b1 b2 q1 lo) (hH : ValsA w b3 b4 q2 hi) (hb2 : b2 ≤ w.heap.size) (hb4 : b4 ≤ w.heap.size) :
    Calls Try.prog 12 #[.pointer (some ⟨p, 0, none⟩), .slice q1 lo.length c1, .slice q2 hi.length c2] w fun e w' => (∃ q c, e = .returned (.slice q (rangeP l lo.head? hi.head?).length c) ∧ OwnInts w' w.heap.size q c (toInts (rangeP l lo.head? hi.head?))) ∧ Below w.heap.size w w' := by
  obtain ⟨a, haI, hal, haC⟩ : ∃ a, (∀ t, t < l.length → okLo lo.head? (ordAt l t) = decide (a ≤ t)) ∧ a ≤ l.length ∧ ((lo = [] ∧ a = 0) ∨ ∃ x r, lo = x :: r ∧ Ends l.length a (cfFrom l x)) := by
    cases lo with
    | nil => exact ⟨0, fun t _ => by simp [okLo], Nat.zero_le _, .inl ⟨rfl, rfl⟩⟩
    | cons x r => obtain ⟨k, hk⟩ := ends_from l x; exact ⟨k, fun t ht => lo_ok hk t ht, hk.le, .inr ⟨x, r, rfl, hk⟩⟩
  obtain ⟨b, hbI, hbl, hbC⟩ : ∃ b, (∀ t, t < l.length → okHi hi.head? (ordAt l t) = decide (t < b)) ∧ b ≤ l.length ∧ ((hi = [] ∧ b = l.length) ∨ ∃ x r, hi = x :: r ∧ Ends l.length b (cfBehind l x)) := by
    cases hi with
    | nil => exact ⟨l.length, fun t ht => by simp [okHi, ht], Nat.le_refl _, .inl ⟨rfl, rfl⟩⟩
    | cons x r => obtain ⟨k, hk⟩ := ends_behind l x; exact ⟨k, fun t ht => hi_ok hk t ht, hk.le, .inr ⟨x, r, rfl, hk⟩⟩
  rw [rangeP_mid haI hbI]
  obtain ⟨n1, hn1⟩ : ∃ n, n = lo.length := ⟨_, rfl⟩
  obtain ⟨n2, hn2⟩ : ∃ n, n = hi.length := ⟨_, rfl⟩
  rw [← hn1] at hc1 ⊢
  rw [← hn2] at hc2 ⊢
  have HN1 := Lib.hid hn1
  have HN2 := Lib.hid hn2
  clear hn1 hn2
  have hfew := h.now.1.few
  obtain ⟨qo, co, lo', hi', d1, d2, d3, -, -⟩ := h.now.1.order
  have HI := Lib.hid h
  have HL := Lib.hid hL
  have HH := Lib.hid hH
  have HAC := Lib.hid haC
  have HBC := Lib.hid hbC
  clear h haI hbI hL hH haC hbC
  go_enter Try.func12, Try.ntmps12
  go_wp2_with fail
  go_region
  clear d1 d2 d3
  go_upto_if 19 with fail
  go_cut [7] (fun v wc => v = .int .i64 (a : Int) ∧ Hid (Below w.heap.size w wc))
  case first =>
    have D0 : Below w.heap.size w w.drew := by (repeat (first | exact ext_refl _ | assumption | (refine ext_alloc ?_ _) | (refine ext_drewN ?_ _) | refine ext_drew ?_ | (refine ext_set (by first | (simp; done) | (simp; omega)) _ ?_) | (refine ext_trans ?_ (by assumption))))
    rcases HAC.out with ⟨rfl, rfl⟩ | ⟨x, r, rfl, hE⟩
    · obtain rfl : n1 = 0 := HN1.out
      go_wp2_with fail
      go_meet
      exact ⟨rfl, D0⟩
    · obtain ⟨g, off, rfl, -, hg, e0, e1, e2⟩ := (HL.out.same (Same.of D0 hb2)).at_ (i := 0) (by simp)
      have hp1 : (0 : Int) < (n1 : Int) := by have := HN1.out; simp at this; omega
      have FF := Lib.hid (firstFrom_any l p a x w.drew (HI.out.later D0).now.1 hE)
      simp only [Nat.zero_mul, Nat.add_zero, List.getElem_cons_zero] at e0 e1 e2
      have HD := Lib.hid D0
      clear D0 hE
      obtain ⟨xk, xn, xs⟩ := x
      go_wp2_with fail
      refine (FF.out).mono ?_
      rintro e w1 ⟨rfl, hb⟩
      have BE := Lib.hid (HD.out.trans (hb.mono HD.out.size))
      clear hb
      go_wp2_with fail
      go_meet
      exact ⟨rfl, BE⟩
  case rest =>
    obtain ⟨rfl, HB0⟩ := hcut
    obtain ⟨V0, hV0⟩ : ∃ V0, V0 = wc := ⟨_, rfl⟩
    subst hV0
    go_upto_if 27 with fail
    go_cut [8] (fun v wd => v = .int .i64 (b : Int) ∧ Hid (Below w.heap.size w wd))
    case first =>
      rcases HBC.out with ⟨rfl, rfl⟩ | ⟨x, r, rfl, hE⟩
      · obtain rfl : n2 = 0 := HN2.out
        go_wp2_with fail
        go_meet
        exact ⟨rfl, HB0⟩
      · obtain ⟨g, off, rfl, -, hg, e0, e1, e2⟩ := (HH.out.same (Same.of HB0.out hb4)).at_ (i := 0) (by simp)
        have hp1 : (0 : Int) < (n2 : Int) := by have := HN2.out; simp at this; omega
        have FF := Lib.hid (firstBehind_any l p b x V0 (HI.out.later HB0.out).now.1 hE)
        simp only [Nat.zero_mul, Nat.add_zero, List.getElem_cons_zero] at e0 e1 e2
        clear hE
        obtain ⟨xk, xn, xs⟩ := x
        go_wp2_with fail
        refine (FF.out).mono ?_
        rintro e w1 ⟨rfl, hb⟩
        have BE := Lib.hid (HB0.out.trans (hb.mono HB0.out.size))
        clear hb
        go_wp2_with fail
        go_meet
        exact ⟨rfl, BE⟩
    case rest =>
      obtain ⟨rfl, HB1⟩ := hcut
      obtain ⟨V1, hV1⟩ : ∃ V1, V1 = wc := ⟨_, rfl⟩
      subst hV1
      clear HB0 HL HH HAC HBC
      have hs1 := HB1.out.size
      have HM := Lib.hid (show OwnN (V1.alloc (.cells #[] 3)) w.heap.size (.slice (some ⟨V1.heap.size, 0, none⟩) 0 0) (toInts (between l a a)) ∧ Below w.heap.size w (V1.alloc (.cells #[] 3)) from ⟨by rw [between_none (Nat.le_refl _)]; exact OwnF.made _ _ _ hs1, HB1.out.trans (show Below w.heap.size V1 _ from (Below.refl _ _).alloc hs1 _)⟩)
      go_wp2_with fail
      go_loopw [10, 9] (fun vi vo wr => ∃ i : Nat, vi = .int .i64 i ∧ a ≤ i ∧ (i ≤ b ∨ i = a) ∧ (∃ (q : Option Addr) (n k : Nat), vo = .slice q n k) ∧ Hid (OwnN wr w.heap.size vo (toInts (between l a i)) ∧ Below w.heap.size w wr)) (fun vi _ _ => b - (intOf vi).toNat)
      case atStart => exact ⟨a, rfl, Nat.le_refl _, .inr rfl, ⟨_, _, _, rfl⟩, HM⟩
      case round =>
        obtain ⟨i, rfl, hai, hib, ⟨q0, n0, k0, rfl⟩, HR⟩ := hrel
        clear HM HB1
        obtain ⟨V, hV⟩ : ∃ V, V = wr := ⟨_, rfl⟩
        subst hV
        have hsV := HR.out.2.size
        by_cases hlt : i < b
        · have hil : i < (allP l).length := by rw [allP_len]; omega
          obtain ⟨n, hn⟩ : ∃ n, (allP l)[i]? = some n := ⟨_, List.getElem?_eq_getElem hil⟩
          have hnl : n < l.length := allP_mem.1 (List.mem_of_getElem? hn)
          obtain ⟨x, hx⟩ : ∃ x, l[n]? = some x := ⟨_, List.getElem?_eq_getElem hnl⟩
          have hxv := valAt_get hx
          have T := (HI.out.later HR.out.2).now.1
          obtain ⟨qv, cv, lv, hv, a1, a2, a3, a4, a5⟩ := T.vals
          obtain ⟨qo', co', lo2, ho2, d1, d2, d3, d4, d5⟩ := T.order
          obtain ⟨go, oo, rfl, -, hgo, hco⟩ := d4 i (by rw [toInts_len]; exact hil)
          have e0 := hco i (n : Int) (by unfold toInts; rw [List.getElem?_map, hn]; rfl)
          unfold intC at e0
          rw [Nat.mul_one] at e0
          obtain ⟨gv, ov, rfl, -, hgv, hcv⟩ := a4 n hnl
          obtain ⟨f0, f1, f2⟩ := hcv n x hx
          have z1 : (n : Int) < (l.length : Int) := by omega
          have z2 : (i : Int) < (l.length : Int) := by omega
          have hst := between_step hai hn
          rw [hxv] at hst
          have HST := Lib.hid hst
          have NU := Lib.hid (isNull_any x V)
          clear hn hx hxv T a4 d4 hco hcv hst hil
          obtain ⟨xk, xn, xs⟩ := x
          have hlt' : (i : Int) < (b : Int) := by omega
          go_wp2_with fail
          refine (NU.out).mono ?_
          rintro e w1 ⟨rfl, hb1⟩
          have B1 := Lib.hid (HR.out.2.trans (hb1.mono hsV))
          have OO := Lib.hid (show OwnN w1 w.heap.size (.slice q0 n0 k0) (toInts (between l a i)) from HR.out.1.later hb1)
          clear hb1 NU HR e0 f0 f1 f2 a1 d1
          by_cases hk : xk = 0
          · have hkd : decide (xk = 0) = true := decide_eq_true hk
            have e : between l a (i + 1) = between l a i := by rw [HST.out, if_neg (fun h => h hk), List.append_nil]
            have NX := Lib.hid (show OwnN w1 w.heap.size (.slice q0 n0 k0) (toInts (between l a (i + 1))) ∧ Below w.heap.size w w1 from ⟨by rw [e]; exact OO.out, B1.out⟩)
            clear hk e
            go_wp2_with fail
            go_roundw
            case rel => exact ⟨i + 1, by go_num, by omega, by omega, ⟨_, _, _, rfl⟩, NX⟩
            case measure => simp [intOf] <;> omega
          · have hkd : decide (xk = 0) = false := decide_eq_false hk
            have e : toInts (between l a i) ++ [(n : Int)] = toInts (between l a (i + 1)) := by rw [HST.out, if_pos hk]; simp [toInts]
            have HE := Lib.hid e
            have hbl2 := between_len l a i
            have htl : (toInts (between l a i)).length ≤ 1000 := by rw [toInts_len]; omega
            have hs1 : w.heap.size ≤ w1.heap.size := B1.out.size
            have hb2' : Below w1.heap.size w1 (w1.alloc (.cells #[.int .i64 (n : Int)] 3)) := by (repeat (first | exact ext_refl _ | assumption | (refine ext_alloc ?_ _) | (refine ext_drewN ?_ _) | refine ext_drew ?_ | (refine ext_set (by first | (simp; done) | (simp; omega)) _ ?_) | (refine ext_trans ?_ (by assumption))))
            have O2 := Lib.hid (show OwnN (w1.alloc (.cells #[.int .i64 (n : Int)] 3)) w.heap.size (.slice q0 n0 k0) (toInts (between l a i)) from OO.out.later hb2')
            have HR1 := Lib.hid (one_block (W := w1) numCell_len 3 #[.int .i64 (n : Int)] (n : Int) rfl w1.heap.size rfl)
            have HE2 := Lib.hid (show Below w.heap.size w (w1.alloc (.cells #[.int .i64 (n : Int)] 3)) from B1.out.trans (hb2'.mono hs1))
            clear hk e hb2' OO HST
            go_wp2_with (at_builtin; refine wp_append_flat rfl _ _ 31 3 rfl Try.underlying31 _ 8 Try.infoIntX rfl (by omega) numCell_len numCell_one w.heap.size _ (toInts (between l a i)) rfl O2.out _ _ _ [(n : Int)] rfl rfl 0 (w1.heap.size + 1) HR1.out ?l1 ?l2 HE2.out.size ?_)
            case l1 => unfold maxLen; simp; omega
            case l2 => simp; omega
            intro v3 w3 O3 b3 o3
            rw [HE.out] at O3
            obtain ⟨q3, c3, rfl, -⟩ := O3.arr numCell_len
            have NX := Lib.hid (show OwnN w3 w.heap.size (.slice q3 (toInts (between l a (i + 1))).length c3) (toInts (between l a (i + 1))) ∧ Below w.heap.size w w3 from ⟨O3, HE2.out.trans b3⟩)
            clear O3 b3 o3 O2 HR1 HE2
            go_wp2_with fail
            go_roundw
            case rel => exact ⟨i + 1, by go_num, by omega, by omega, ⟨_, _, _, rfl⟩, NX⟩
            case measure => simp [intOf] <;> omega
        · have e : between l a i = between l a b := by
            rcases hib with h | rfl
            · rw [show i = b by omega]
            · rw [between_none (Nat.le_refl _), between_none (by omega)]
          obtain ⟨q3, c3, e3, hO⟩ := HR.out.1.ints
          rw [toInts_len] at e3
          simp only [Value.slice.injEq] at e3
          obtain ⟨rfl, rfl, rfl⟩ := e3
          rw [e] at hO ⊢
          have R := Lib.hid (And.intro hO HR.out.2)
          clear hO HR e
          have hlt' : ¬ (i : Int) < (b : Int) := by omega
          go_wp2_with fail
          go_ret
          exact ⟨⟨_, _, rfl, R.out.1⟩, R.out.2⟩

end Go.Proofs.Ytflbeccfdbjbhaa
