/- The reference's Shuffle. -/
import Derived.Test.YtklfccdjmlmmgaaPkO
namespace Go.Proofs.Ytklfccdjmlmmgaa
open Go.RowKit

/-- The numbers 0 to n - 1. -/
def iota (n : Nat) : List Int := (List.range n).map Int.ofNat
theorem iota_len (n : Nat) : (iota n).length = n := by simp [iota]
theorem iota_succ (n : Nat) : iota (n + 1) = iota n ++ [(n : Int)] := by simp [iota, List.range_succ]
/-- The order that is chosen of what is left, and the numbers that are left then. -/
def shuf : Nat → List Int → List Int → List Int × List Int
  | 0, _, L => ([], L)
  | n + 1, left, L =>
    let k := (pickN L (n + 1)).toNat
    let r := shuf n (left.take k ++ left.drop (k + 1)) L.tail
    (left[k]?.getD 0 :: r.1, r.2)
/-- How many things an order of n has. -/
def ordN (n : Int) : Nat := if n < 1000 then n.toNat else 1000

set_option maxRecDepth 100000 in
set_option maxHeartbeats 4000000 in
theorem rshuffle_any (M0 B p : Nat) (L : List Int) (n : Int) (w : World) (hR : RPk w M0 B p L) (hn : -9223372036854775808 ≤ n) (hn2 : n ≤ 9223372036854775807) :
    Calls Try.prog 15 #[.pointer (some ⟨p, 0, none⟩), .int .i64 n] w fun e w' => (∃ v, e = .returned v ∧ OwnI w' w.heap.size v (shuf (ordN n) (iota (ordN n)) L).1) ∧ RPk w' M0 B p (shuf (ordN n) (iota (ordN n)) L).2 ∧ Out (fun k => k = p) w w' := by
  obtain ⟨N, hN⟩ : ∃ N, N = ordN n := ⟨_, rfl⟩
  rw [← hN]
  have hN1 : N ≤ 1000 := by rw [hN]; unfold ordN; split <;> omega
  have hN2 : ∀ i : Nat, i ≤ N → (((i : Int) < n ∧ i < 1000) ↔ i < N) := by
    intro i _
    rw [hN]
    unfold ordN
    split <;> omega
  clear hN
  have hpB : p < w.heap.size := Nat.lt_of_lt_of_le hR.low hR.top
  have HR := Lib.hid hR
  have HN2 := Lib.hid hN2
  clear hR hN2
  go_enter Try.func15, Try.ntmps15
  go_wp2
  go_loopw [5, 6] (fun vl vi wr => ∃ i : Nat, vi = .int .i64 i ∧ i ≤ N ∧ Hid (OwnI wr w.heap.size vl (iota i) ∧ Below w.heap.size w wr)) (fun _ vi _ => N - (intOf vi).toNat)
  case atStart => exact ⟨0, rfl, Nat.zero_le _, ⟨World.ownsRow_nil _ _ _ _, Below.refl _ _⟩⟩
  case round =>
    obtain ⟨i, rfl, hi, HH⟩ := hrel
    by_cases hlt : i < N
    · obtain ⟨h1, h2⟩ := (HN2.out i hi).2 hlt
      have h2' : (i : Int) < 1000 := by omega
      clear h2
      go_wp2_with (at_builtin; refine wp_append_ints rfl _ _ rfl w.heap.size _ (iota i) rfl (HH.out.1.later ?c1) _ 1 1 [(i : Int)] rfl rfl ?c2 ?c3 ?c4 ?_)
      case c1 => exact (Below.refl _ _).alloc (Nat.le_refl _) _
      case c2 =>
        intro j hj
        refine ⟨_, 0, rfl, by simp, fun j u hu => ?_⟩
        match j, hu with
        | 0, hu => simp at hu; subst hu; exact Lib.cell_of_heap (heap_alloc_new wr _) 0
      case c3 => rw [iota_len]; simp; omega
      case c4 => have := HH.out.2.size; simp; omega
      intro v' w' HO hb _
      go_wp2
      go_roundw
      case rel =>
        refine ⟨i + 1, by go_num, hlt, ⟨by rw [iota_succ]; exact HO, HH.out.2.trans (((Below.refl _ _).alloc HH.out.2.size _).trans hb)⟩⟩
      case measure => simp [intOf] <;> omega
    · have hiN : i = N := by omega
      subst hiN
      have hex : ¬ (i : Int) < n ∨ ((i : Int) < n ∧ ¬ (i : Int) < 1000) := by
        have := (HN2.out i (Nat.le_refl _)).1
        omega
      have st : OwnI wr w.heap.size _ (iota i) ∧ RPk wr M0 B p L ∧ Out (fun k => k = p) w wr := ⟨HH.out.1, HR.out.ext (HH.out.2.mono HR.out.top), Out.of HH.out.2⟩
      have HS := Lib.hid st
      clear st HH
      rcases hex with h1 | ⟨h1, h2⟩
      all_goals
        go_wp2
        go_loopw [5, 7] (fun vl vo wx => ∃ (m : Nat) (left : List Int), left.length = m ∧ m ≤ 1000 ∧ Hid (∃ (out Lr : List Int), OwnI wx w.heap.size vl left ∧ OwnI wx w.heap.size vo out ∧ (∀ k, vo.ownBlock = some k → vl.ownBlock ≠ some k) ∧ RPk wx M0 B p Lr ∧ Out (fun k => k = p) w wx ∧ out.length + m ≤ 1000 ∧ out ++ (shuf m left Lr).1 = (shuf i (iota i) L).1 ∧ (shuf m left Lr).2 = (shuf i (iota i) L).2)) (fun vl _ _ => match vl with | .slice _ m _ => m | _ => 0)
        case atStart => exact ⟨i, iota i, iota_len i, hN1, ⟨[], L, HS.out.1, OwnI.nil _ _, fun k hk => (by simp [Value.ownBlock] at hk), HS.out.2.1, HS.out.2.2, by simpa using hN1, rfl, rfl⟩⟩
        case round =>
          obtain ⟨m, left, hm, hm2, HW⟩ := hrel
          obtain ⟨ql, capl, hvl, hcl, hcl2⟩ : ∃ ql capl, _ = Value.slice ql m capl ∧ m ≤ capl ∧ capl ≤ 9223372036854775807 := by
            obtain ⟨out, Lr, h1, _⟩ := HW.out
            obtain ⟨ql, capl, h3, h4, h5, _⟩ := h1.srcI
            rw [hm] at h3 h4
            exact ⟨ql, capl, h3, h4, h5⟩
          subst hvl
          by_cases hz : m = 0
          · subst hz
            go_wp2
            go_ret
            obtain ⟨out, Lr, h1, h2, h3, h4, h5, h6, h7, h8⟩ := HW.out
            have h7' : out = (shuf i (iota i) L).1 := by rw [← h7]; simp [shuf]
            refine ⟨⟨_, rfl, by rw [← h7']; exact h2⟩, by rw [← h8]; exact h4, h5⟩
          · obtain ⟨out, Lr, h1, h2, h3, h4, h5, h6, h7, h8⟩ := HW.out
            have hpk := pickN_lt Lr m (by omega)
            obtain ⟨kk, hkk⟩ : ∃ kk : Nat, pickN Lr m = (kk : Int) := ⟨(pickN Lr m).toNat, by omega⟩
            have hkm : kk < m := by omega
            have HK := Lib.hid hkk
            have H4 := Lib.hid h4
            have H1 := Lib.hid h1
            have H2 := Lib.hid (And.intro h2 h3)
            have H5 := Lib.hid h5
            have H7 := Lib.hid (And.intro h7 h8)
            clear hpk hkk h1 h2 h3 h4 h5 h7 h8 HW
            go_wp2_with fail
            refine (rnext_any M0 B p Lr m wr H4.out (by omega)).mono ?_
            rintro e w1 ⟨rfl, h9, h10⟩
            rw [HK.out]
            have g1 := H1.out.keep h10 (fun k hk => by omega)
            have g2 := H2.out.1.keep h10 (fun k hk => by omega)
            obtain ⟨ql', capl', hv', _, _, hs'⟩ := g1.src
            obtain ⟨g, hq, hgb, hg, hc⟩ := hs' kk (by omega)
            obtain ⟨rfl, -, rfl⟩ : ql = ql' ∧ m = left.length ∧ capl = capl' := by simpa using hv'
            subst hq
            obtain ⟨x, hx⟩ : ∃ x, x = left[kk]'(by omega) := ⟨_, rfl⟩
            have c0 := hc kk x (by rw [hx]; exact List.getElem?_eq_getElem _)
            have G := Lib.hid (And.intro g1 g2)
            have H9 := Lib.hid h9
            have H10 := Lib.hid h10
            have HX := Lib.hid hx
            have HQ : w.heap.size ≤ w1.heap.size := Nat.le_trans H5.out.size h10.size
            clear g1 g2 hv' hs' hc hx h9 h10
            go_wp2_with (at_builtin; refine wp_append_ints rfl _ _ rfl w.heap.size _ out rfl (G.out.2.later ?d1) _ 1 1 [x] rfl rfl ?d2 ?d3 ?d4 ?_)
            case d1 => exact (Below.refl _ _).alloc (Nat.le_refl _) _
            case d2 =>
              intro j hj
              refine ⟨_, 0, rfl, by simp, fun j u hu => ?_⟩
              match j, hu with
              | 0, hu => simp at hu; subst hu; exact Lib.cell_of_heap (heap_alloc_new w1 _) 0
            case d3 => simp; omega
            case d4 => simp; omega
            intro vo' w2 O2 b2 o2
            have L2 : OwnI w2 w.heap.size (.slice (some ⟨g, 0, none⟩) m capl) left := (G.out.1.later ((Below.refl _ _).alloc (Nat.le_refl _) _)).kept o2 H2.out.2
            have S2 : SrcI w2 w2.heap.size (some ⟨g, 0, none⟩) left := by
              obtain ⟨q5, c5, e5, _, _, h5⟩ := L2.srcI
              obtain ⟨rfl, -, -⟩ : some ⟨g, 0, none⟩ = q5 ∧ m = left.length ∧ capl = c5 := by simpa using e5
              exact h5
            have O12 : Out (fun k => k = p ∨ w.heap.size ≤ k) w w2 := ((H5.out.mono fun k _ h => .inl h).trans (H10.out.mono fun k _ h => .inl h)).trans ((Out.alloc _ _).trans (Out.from_ b2 fun k h => .inr h))
            have R2 : RPk w2 M0 B p (pickL Lr m) := (H9.out.ext ((Below.refl _ _).alloc H9.out.top _)).ext (b2.mono (Nat.le_trans HR.out.top (Nat.le_refl _)))
            have Q2 : w.heap.size ≤ w2.heap.size := Nat.le_trans HQ (Nat.le_trans (by simp) b2.size)
            have HL2 := Lib.hid (And.intro S2 (And.intro O12 (And.intro R2 O2)))
            clear L2 S2 O12 R2 O2 b2 o2 c0
            have hkc : ¬ capl < kk := by omega
            have hkc' : kk ≤ capl := by omega
            have hkm' : kk ≤ m := by omega
            have hk1 : kk + 1 ≤ m := by omega
            have hk2 : kk + 1 ≤ capl := by omega
            have fin : ∀ v4 w4, OwnI w4 w2.heap.size v4 (left.take kk ++ left.drop (kk + 1)) → Below w2.heap.size w2 w4 → Hid (∃ (out' Lr' : List Int), OwnI w4 w.heap.size v4 (left.take kk ++ left.drop (kk + 1)) ∧ OwnI w4 w.heap.size vo' out' ∧ (∀ k, vo'.ownBlock = some k → v4.ownBlock ≠ some k) ∧ RPk w4 M0 B p Lr' ∧ Out (fun k => k = p) w w4 ∧ out'.length + (m - 1) ≤ 1000 ∧ out' ++ (shuf (m - 1) (left.take kk ++ left.drop (kk + 1)) Lr').1 = (shuf i (iota i) L).1 ∧ (shuf (m - 1) (left.take kk ++ left.drop (kk + 1)) Lr').2 = (shuf i (iota i) L).2) := by
              intro v4 w4 O4 b4
              obtain ⟨S2, O12, R2, O2⟩ := HL2.out
              obtain ⟨m', rfl⟩ : ∃ m', m = m' + 1 := ⟨m - 1, by omega⟩
              have et : pickL Lr ((m' + 1 : Nat) : Int) = Lr.tail := by unfold pickL; rw [if_neg (by omega)]
              have es : shuf (m' + 1) left Lr = (x :: (shuf m' (left.take kk ++ left.drop (kk + 1)) Lr.tail).1, (shuf m' (left.take kk ++ left.drop (kk + 1)) Lr.tail).2) := by
                have e1 : (pickN Lr (m' + 1)).toNat = kk := by have := HK.out; rw [Int.natCast_add] at this; rw [show (pickN Lr (m' + 1) : Int) = (kk : Int) from this]; simp
                have e2 : left[kk]?.getD 0 = x := by rw [HX.out, List.getElem?_eq_getElem (by omega)]; rfl
                simp only [shuf, e1, e2]
              have h7 := H7.out.1
              have h8 := H7.out.2
              rw [es] at h7 h8
              refine ⟨out ++ [x], Lr.tail, O4.base_le Q2, O2.later b4, fun k hk hv => ?_, ?_, ?_, by simp; omega, by simpa using h7, h8⟩
              · have h1 := (O4.lt _ hv).1
                have h2 := (O2.lt _ hk).2
                omega
              · rw [← et]
                exact R2.ext (b4.mono (Nat.le_trans HR.out.top Q2))
              · exact (O12.trans (Out.from_ b4 fun k h => .inr (Nat.le_trans Q2 h))).mono fun k hk h => h.elim id fun h => by omega
            have FIN := Lib.hid fin
            clear fin
            by_cases hcz : capl = kk + 1
            · subst hcz
              have hmk : m = kk + 1 := by omega
              have HD0 := Lib.hid (show 0 = (left.drop (kk + 1)).length by rw [List.length_drop]; omega)
              go_wp2_with (at_builtin; refine wp_append_ints rfl _ _ rfl w2.heap.size _ [] rfl (OwnI.nil _ _) _ _ _ (left.take kk) ?n1 rfl (HL2.out.1.take kk) ?n3 (Nat.le_refl _) ?_)
              case n1 => rw [List.length_take]; omega
              case n3 => simp; omega
              intro v3 w3 O3 b3 _
              have O3 : OwnI w3 w2.heap.size v3 (left.take kk) := O3
              have B3 := Lib.hid b3
              clear b3
              go_wp2_with (at_builtin; refine wp_append_ints rfl _ _ rfl w2.heap.size _ _ rfl O3 _ _ _ (left.drop (kk + 1)) ?m1 rfl ?m2 ?m3 B3.out.size ?_)
              case m1 => rw [List.length_drop]; omega
              case m2 => exact fun j hj => by have := HD0.out; omega
              case m3 => simp; omega
              intro v4 w4 O4 b4 _
              obtain ⟨q4, c4, hv4, _⟩ := O4.src
              rw [show (left.take kk ++ left.drop (kk + 1)).length = m - 1 by simp; omega] at hv4
              subst hv4
              have HF := Lib.hid (FIN.out _ _ O4 (B3.out.trans b4))
              clear O4 b4 O3
              go_wp2
              go_roundw
              case rel => exact ⟨m - 1, _, by simp; omega, by omega, HF.out⟩
              case measure => simp <;> omega
            · have hc4 : ¬ capl ≤ kk + 1 := by omega
              have hc5 : ¬ capl - (kk + 1) = 0 := by omega
              go_wp2_with (at_builtin; refine wp_append_ints rfl _ _ rfl w2.heap.size _ [] rfl (OwnI.nil _ _) _ _ _ (left.take kk) ?n1 rfl (HL2.out.1.take kk) ?n3 (Nat.le_refl _) ?_)
              case n1 => rw [List.length_take]; omega
              case n3 => simp; omega
              intro v3 w3 O3 b3 _
              have O3 : OwnI w3 w2.heap.size v3 (left.take kk) := O3
              have S3 := Lib.hid ((HL2.out.1.ext b3).drop (kk + 1))
              have B3 := Lib.hid b3
              clear b3
              go_wp2_with (at_builtin; refine wp_append_ints rfl _ _ rfl w2.heap.size _ _ rfl O3 _ _ _ (left.drop (kk + 1)) ?m1 rfl (by first | exact S3.out.up B3.out.size | (have := S3.out.up B3.out.size; simpa using this)) ?m3 B3.out.size ?_)
              case m1 => rw [List.length_drop]; omega
              case m3 => simp; omega
              intro v4 w4 O4 b4 _
              obtain ⟨q4, c4, hv4, _⟩ := O4.src
              rw [show (left.take kk ++ left.drop (kk + 1)).length = m - 1 by simp; omega] at hv4
              subst hv4
              have HF := Lib.hid (FIN.out _ _ O4 (B3.out.trans b4))
              clear O4 b4 O3
              go_wp2
              go_roundw
              case rel => exact ⟨m - 1, _, by simp; omega, by omega, HF.out⟩
              case measure => simp <;> omega

end Go.Proofs.Ytklfccdjmlmmgaa
