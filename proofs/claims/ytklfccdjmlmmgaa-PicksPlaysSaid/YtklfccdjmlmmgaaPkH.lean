/- Shuffle. -/
import Derived.Test.YtklfccdjmlmmgaaPkM
import Derived.Test.YtklfccdjmlmmgaaPkD
namespace Go.Proofs.Ytklfccdjmlmmgaa
open Go.RowKit

theorem PkP.fitN {L : List Int} {n : Int} (hn2 : n ≤ 9223372036854775807) (hn : 0 < n) : pickN L n ≤ 9223372036854775807 := by have := pickN_lt L n hn; omega

set_option maxRecDepth 100000 in
set_option maxHeartbeats 4000000 in
theorem shuffle_any (B p c : Nat) (L : List Int) (n : Int) (w : World) (hR : PkP w B p c L) (hn : -9223372036854775808 ≤ n) (hn2 : n ≤ 9223372036854775807) :
    Calls Try.prog 14 #[.pointer (some ⟨p, 0, none⟩), .int .i64 n] w fun e w' => (∃ v, e = .returned v ∧ OwnI w' w.heap.size v (shuf (ordN n) (iota (ordN n)) L).1) ∧ PkP w' B p c (shuf (ordN n) (iota (ordN n)) L).2 ∧ Out (fun k => k = c) w w' := by
  have hcB : c < w.heap.size := Nat.lt_of_lt_of_le hR.lowc hR.top
  have hpB : p < w.heap.size := Nat.lt_of_lt_of_le hR.lowp hR.top
  have HR := Lib.hid hR
  obtain ⟨i0, hi, hz0, hz1, hz2⟩ := info_parts Try.infoInt
  clear hR
  have key : ∀ m : Int, (m = if (1000 : Int) < n then 1000 else n) → m.toNat = ordN n ∧ m ≤ 1000 ∧ -9223372036854775808 ≤ m := by
    intro m h
    unfold ordN
    split at h <;> split <;> omega
  have KEY := Lib.hid key
  clear key
  obtain ⟨i, hiN⟩ : ∃ i, i = ordN n := ⟨_, rfl⟩
  rw [← hiN]
  have hN1 : i ≤ 1000 := by rw [hiN]; unfold ordN; split <;> omega
  have HIN := Lib.hid hiN
  clear hiN
  have hm := KEY.out (min n 1000) (by split <;> omega)
  rw [← HIN.out] at hm
  have HM := Lib.hid hm
  clear hm
  go_enter Try.func14, Try.ntmps14
  go_wp2_with fail
  refine (ascending_any (min n 1000) w (by omega) (by omega)).mono ?_
  rintro e w1 ⟨⟨v0, rfl, h0⟩, hb0⟩
  rw [HM.out.1] at h0
  obtain ⟨q0, c0, rfl, hc0, hc1, hs0⟩ := h0.srcI
  rw [iota_len] at hc0
  have e0 : (iota i).length = i := iota_len i
  rw [e0]
  have H0 := Lib.hid (And.intro h0 hb0)
  have hsz : w.heap.size ≤ w1.heap.size := hb0.size
  clear h0 hb0 hs0 e0
  go_wp2_with (refine wpList_make_own _ rfl _ _ 22 rfl w1.heap.size 3 i0 (.int .i64 0) 1 Try.underlying22 hi hz0 hz1 .i64 .i64 (i : Int) i rfl rfl rfl ?k1 ?k2 (Nat.le_refl _) ?_)
  case k1 => rw [hz2]; omega
  case k2 => unfold maxLen; omega
  intro w2 O2 g2
  have st : OwnI w2 w.heap.size (.slice q0 i c0) (iota i) ∧ OwnI w2 w1.heap.size (.slice (some ⟨w1.heap.size, 0, none⟩) 0 i) [] ∧ PkP w2 B p c L ∧ Out (fun k => k = c) w w2 := by
    have b12 : Below w1.heap.size w1 w2 := (Below.refl _ _).grown g2 (Nat.le_refl _) (fun k hk => by cases hk)
    obtain ⟨h0, hb0⟩ := H0.out
    rw [iota_len] at h0
    have b02 : Below w.heap.size w w2 := hb0.trans (b12.mono hsz)
    exact ⟨h0.later b12, O2, HR.out.ext (b02.mono HR.out.top), Out.of b02⟩
  have HS := Lib.hid st
  have hlow : ∀ k, (Value.slice q0 i c0).ownBlock = some k → k < w1.heap.size := by
    intro k hk
    have h0 := H0.out.1
    rw [iota_len] at h0
    exact (h0.lt _ hk).2
  have HLOW := Lib.hid hlow
  clear st hlow O2 g2 H0 HM KEY HIN
  go_wp2
  go_loopw [5, 6] (fun vl vo wx => ∃ (m : Nat) (left : List Int), left.length = m ∧ m ≤ 1000 ∧ Hid (∃ (out Lr : List Int), OwnI wx w.heap.size vl left ∧ OwnI wx w1.heap.size vo out ∧ (∀ k, vl.ownBlock = some k → k < w1.heap.size) ∧ PkP wx B p c Lr ∧ Out (fun k => k = c) w wx ∧ out.length + m ≤ 1000 ∧ out ++ (shuf m left Lr).1 = (shuf i (iota i) L).1 ∧ (shuf m left Lr).2 = (shuf i (iota i) L).2 ∧ w1.heap.size ≤ wx.heap.size)) (fun vl _ _ => match vl with | .slice _ m _ => m | _ => 0)
  case atStart =>
    have hw12 : w1.heap.size ≤ w2.heap.size := by
      obtain ⟨_, h2⟩ := HS.out.2.1
      rcases h2 with ⟨h, _⟩ | ⟨g, cap, cur, hv, _, hh, _⟩
      · cases h
      · obtain ⟨rfl, -⟩ : w1.heap.size = g ∧ i = cap := by simpa using hv
        rcases Nat.lt_or_ge w1.heap.size w2.heap.size with h | h
        · exact Nat.le_of_lt h
        · rw [Array.getElem?_eq_none h] at hh; cases hh
    exact ⟨i, iota i, iota_len i, hN1, ⟨[], L, HS.out.1, HS.out.2.1, HLOW.out, HS.out.2.2.1, HS.out.2.2.2, by simpa using hN1, rfl, rfl, hw12⟩⟩
  case round =>
    obtain ⟨m, left, hm, hm2, HW⟩ := hrel
    obtain ⟨ql, capl, hvl, hcl, hcl2⟩ : ∃ ql capl, _ = Value.slice ql m capl ∧ m ≤ capl ∧ capl ≤ 9223372036854775807 := by
      obtain ⟨out, Lr, h1, _⟩ := HW.out
      obtain ⟨ql, capl, h3, h4, h5, _⟩ := h1.srcI
      rw [hm] at h3 h4
      exact ⟨ql, capl, h3, h4, h5⟩
    subst hvl
    by_cases hz : m = 0
    · subst hz
      go_wp2
      go_ret
      obtain ⟨out, Lr, h1, h2, h3, h4, h5, h6, h7, h8, _⟩ := HW.out
      have h7' : out = (shuf i (iota i) L).1 := by rw [← h7]; simp [shuf]
      refine ⟨⟨_, rfl, by rw [← h7']; exact h2.base_le hsz⟩, by rw [← h8]; exact h4, h5⟩
    · obtain ⟨out, Lr, h1, h2, h3, h4, h5, h6, h7, h8, h9⟩ := HW.out
      have hpk := pickN_lt Lr m (by omega)
      obtain ⟨kk, hkk⟩ : ∃ kk : Nat, pickN Lr m = (kk : Int) := ⟨(pickN Lr m).toNat, by omega⟩
      have hkm : kk < m := by omega
      have hcsz : c < w1.heap.size := Nat.lt_of_lt_of_le hcB hsz
      have HK := Lib.hid hkk
      have H4 := Lib.hid h4
      have H1 := Lib.hid (And.intro h1 h3)
      have H2 := Lib.hid h2
      have H5 := Lib.hid h5
      have H7 := Lib.hid (And.intro h7 h8)
      have H9 := Lib.hid h9
      clear hpk hkk h1 h2 h3 h4 h5 h7 h8 h9 HW
      go_wp2_with fail
      refine (next_any B p c Lr m wr H4.out (by omega)).mono ?_
      rintro e w3 ⟨rfl, h9, h10⟩
      rw [HK.out]
      have hwr3 : w1.heap.size ≤ w3.heap.size := Nat.le_trans H9.out h10.size
      have g1 := H1.out.1.keep h10 (fun k hk => by omega)
      have g2 := H2.out.keep h10 (fun k hk => by omega)
      obtain ⟨ql', capl', hv', _, _, hs'⟩ := g1.src
      obtain ⟨g, hq, hgb, hg, hc⟩ := hs' kk (by omega)
      obtain ⟨rfl, -, rfl⟩ : ql = ql' ∧ m = left.length ∧ capl = capl' := by simpa using hv'
      subst hq
      have hgl : g < w1.heap.size := H1.out.2 g rfl
      obtain ⟨x, hx⟩ : ∃ x, x = left[kk]'(by omega) := ⟨_, rfl⟩
      have c0 := hc kk x (by rw [hx]; exact List.getElem?_eq_getElem _)
      have G := Lib.hid (And.intro g1 g2)
      have HP := Lib.hid h9
      have H10 := Lib.hid h10
      have HX := Lib.hid hx
      clear g1 g2 hv' hs' hc hx h9 h10
      go_wp2_with (at_builtin; refine wp_append_ints rfl _ _ rfl w1.heap.size _ out rfl (G.out.2.later ?d1) _ 1 1 [x] rfl rfl ?d2 ?d3 ?d4 ?_)
      case d1 => exact (Below.refl _ _).alloc (Nat.le_refl _) _
      case d2 =>
        intro j hj
        refine ⟨_, 0, rfl, by simp, fun j u hu => ?_⟩
        match j, hu with
        | 0, hu => simp at hu; subst hu; exact Lib.cell_of_heap (heap_alloc_new w3 _) 0
      case d3 => simp; omega
      case d4 => simp; omega
      intro vo' w4 O4 b4 _
      have b34 : Below w1.heap.size w3 w4 := ((Below.refl _ _).alloc hwr3 _).trans b4
      have L4 : OwnI w4 w.heap.size (.slice (some ⟨g, 0, none⟩) m capl) left := G.out.1.kept (Out.from_ b34 fun k h => h) (fun k hk e => by simp [Value.ownBlock] at e; omega)
      have P4 : PkP w4 B p c (pickL Lr m) := HP.out.keep (Out.from_ b34 fun k h => h) (by omega) (by omega)
      have O34 : Out (fun k => k = c ∨ w.heap.size ≤ k) w w4 := ((H5.out.mono fun k _ h => .inl h).trans (H10.out.mono fun k _ h => .inl h)).trans (Out.from_ b34 fun k h => .inr (Nat.le_trans hsz h))
      have H6 := Lib.hid (And.intro O4 (And.intro L4 (And.intro P4 O34)))
      have hsz4 : w1.heap.size ≤ w4.heap.size := Nat.le_trans hwr3 b34.size
      clear c0 O4 L4 P4 O34 b4 b34
      go_wp2_with fail
      refine (delete_any w.heap.size g capl kk m left w4 hm H6.out.2.1 hkm).mono ?_
      rintro e w5 ⟨rfl, o5, u5⟩
      have FIN : Hid (∃ (out' Lr' : List Int), OwnI w5 w.heap.size (.slice (some ⟨g, 0, none⟩) (m - 1) capl) (left.take kk ++ left.drop (kk + 1)) ∧ OwnI w5 w1.heap.size vo' out' ∧ (∀ k, (Value.slice (some ⟨g, 0, none⟩) (m - 1) capl).ownBlock = some k → k < w1.heap.size) ∧ PkP w5 B p c Lr' ∧ Out (fun k => k = c) w w5 ∧ out'.length + (m - 1) ≤ 1000 ∧ out' ++ (shuf (m - 1) (left.take kk ++ left.drop (kk + 1)) Lr').1 = (shuf i (iota i) L).1 ∧ (shuf (m - 1) (left.take kk ++ left.drop (kk + 1)) Lr').2 = (shuf i (iota i) L).2 ∧ w1.heap.size ≤ w5.heap.size) := by
        obtain ⟨O4, L4, P4, O34⟩ := H6.out
        obtain ⟨m', rfl⟩ : ∃ m', m = m' + 1 := ⟨m - 1, by omega⟩
        have et : pickL Lr ((m' + 1 : Nat) : Int) = Lr.tail := by unfold pickL; rw [if_neg (by omega)]
        have es : shuf (m' + 1) left Lr = (x :: (shuf m' (left.take kk ++ left.drop (kk + 1)) Lr.tail).1, (shuf m' (left.take kk ++ left.drop (kk + 1)) Lr.tail).2) := by
          have e1 : (pickN Lr (m' + 1)).toNat = kk := by have := HK.out; rw [Int.natCast_add] at this; rw [show (pickN Lr (m' + 1) : Int) = (kk : Int) from this]; simp
          have e2 : left[kk]?.getD 0 = x := by rw [HX.out, List.getElem?_eq_getElem (by omega)]; rfl
          simp only [shuf, e1, e2]
        have h7 := H7.out.1
        have h8 := H7.out.2
        rw [es] at h7 h8
        refine ⟨out ++ [x], Lr.tail, o5, O4.kept u5 (fun k hk e => ?_), fun k hk => ?_, ?_, ?_, by simp; omega, by simpa using h7, h8, Nat.le_trans hsz4 u5.size⟩
        · have := (O4.lt _ e).1
          omega
        · simp [Value.ownBlock] at hk
          omega
        · rw [← et]
          exact P4.keep u5 (by omega) (by omega)
        · exact (O34.trans (u5.mono fun k _ h => .inr (by omega))).mono fun k hk h => h.elim id fun h => by omega
      clear o5 u5
      go_wp2
      go_roundw
      case rel => exact ⟨m - 1, _, by simp; omega, by omega, FIN.out⟩
      case measure => simp <;> omega

end Go.Proofs.Ytklfccdjmlmmgaa
