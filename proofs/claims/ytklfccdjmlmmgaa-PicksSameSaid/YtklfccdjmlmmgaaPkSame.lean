/- The same numbers choose the same; what is chosen hangs on nothing else: whatever the numbers. Conditions: none. -/
import Derived.Test.YtklfccdjmlmmgaaPkE
import Derived.Test.YtklfccdjmlmmgaaPkA
namespace Go.Proofs.Ytklfccdjmlmmgaa
open Go.ChangeShapes Go.WideShapes Go.ChangeAt Go.RowKit Go.Joins

set_option maxRecDepth 100000 in
set_option maxHeartbeats 2000000 in
theorem same_walk (q q' : Option Addr) (c c' : Nat) (L C : List Int) (w : World) (hc : L.length ≤ c) (hc2 : c ≤ 9223372036854775807) (hS : SrcI w w.heap.size q L) (hF : Fit L) (hS' : SrcI w w.heap.size q' C) (hF' : Fit C) :
    Calls Try.prog 7 #[.slice q L.length c, .slice q' C.length c'] w fun e w' => e = .returned (.bool true) ∧ Below w.heap.size w w' := by
  have e1 : ∀ (W : World) (o : Obj), (W.alloc o).heap.size = W.heap.size + 1 := fun W o => by simp
  have f3 : Fit [3] := by intro x hx; simp at hx; omega
  have HS := Lib.hid hS
  have HF := Lib.hid (show Fit (L.take 1000) from fun x hx => hF x (List.mem_of_mem_take hx))
  have HS' := Lib.hid hS'
  have HF' := Lib.hid hF'
  clear hS hF hS' hF'
  go_enter Try.func7, Try.ntmps7
  go_wp2_with fail
  refine (ex4_any _).mono ?_
  rintro e w0 ⟨rfl, hb0⟩
  have hs0 := hb0.size
  have E0 := Lib.hid hb0
  clear hb0
  go_wp2_with fail
  refine (new_some q c L.length (L.take 1000) w0 (fun i h => by rw [List.length_take]; omega) hc hc2 ((HS.out.ext E0.out).up hs0 |>.take 1000) HF.out (by rw [List.length_take]; omega)).mono ?_
  rintro e w1 ⟨p, cp, rfl, hP, hp, hcp, hb⟩
  have hs1 := hb.size
  have E1 := Lib.hid (E0.out.trans (hb.mono hs0))
  have P1 := Lib.hid hP
  have l1 := hP.lowp
  have l2 := hP.lowc
  clear hb hP
  go_wp2_with fail
  refine (new_some q c L.length (L.take 1000) w1 (fun i h => by rw [List.length_take]; omega) hc hc2 ((HS.out.ext E1.out).up (Nat.le_trans hs0 hs1) |>.take 1000) HF.out (by rw [List.length_take]; omega)).mono ?_
  rintro e w2 ⟨pq, cq, rfl, hQ, hpq, hcq, hb⟩
  have hs2 := hb.size
  have E2 := Lib.hid (E1.out.trans (hb.mono (Nat.le_trans hs0 hs1)))
  have P2 := Lib.hid (And.intro (P1.out.ext hb) hQ)
  have l3 := hQ.lowp
  have l4 := hQ.lowc
  clear hb hQ
  go_wp2_with fail
  refine (new_some _ 1 1 [3] _ (fun i h => by simp; omega) (by omega) (by omega) ((srcI_built w2 _ [3]).up (by simp)) f3 (by simp)).mono ?_
  rintro e w3 ⟨po, co, rfl, hO, hpo, hco, hb⟩
  rw [e1] at hpo hco
  have hb3 : Below w2.heap.size w2 w3 := ((Below.refl _ _).alloc (Nat.le_refl _) _).trans (hb.mono (by simp))
  have hs3 := hb3.size
  have l5 := hO.lowp
  have l6 := hO.lowc
  have st : Below w.heap.size w w3 ∧ ∃ K Z, PkP w3 w1.heap.size p cp K ∧ PkP w3 w2.heap.size pq cq K ∧ PkP w3 w3.heap.size po co Z :=
    ⟨E2.out.trans (hb3.mono (by omega)), _, _, P2.out.1.ext (hb3.mono hs2), P2.out.2.ext hb3, hO⟩
  have ST := Lib.hid st
  clear hb hb3 hO st
  go_wp2_with fail
  go_loopw [9] (fun vi wr => ∃ i : Nat, vi = .int .i64 i ∧ i ≤ C.length ∧ i ≤ 60 ∧ Hid (Below w.heap.size w wr ∧ ∃ K Z, PkP wr w1.heap.size p cp K ∧ PkP wr w2.heap.size pq cq K ∧ PkP wr w3.heap.size po co Z)) (fun vi _ => 60 - (intOf vi).toNat)
  case atStart => exact ⟨0, rfl, Nat.zero_le _, Nat.zero_le _, ST.out⟩
  case round =>
    obtain ⟨i, rfl, hi, hi2, HH⟩ := hrel
    by_cases hlt : i < C.length
    · by_cases hlt2 : (i : Int) < 60
      · obtain ⟨g, off, rfl, hg, hcell⟩ := HS'.out i hlt
        obtain ⟨hB, K, Z, hP, hQ, hO⟩ := HH.out
        obtain ⟨x, hx⟩ : ∃ x, x = C[i] := ⟨_, rfl⟩
        have hfx := HF'.out x (by rw [hx]; exact List.getElem_mem hlt)
        have hcx : ∀ W, Below w.heap.size w W → W.cell? ⟨g, off + i, none⟩ = some (.int .i64 x) := fun W h => (h.cell (p := ⟨g, off + i, none⟩) hg).trans (hcell i x (by rw [hx]; exact List.getElem?_eq_getElem hlt))
        have c0 := hcx wr hB
        have HX := Lib.hid hcx
        have H0 := Lib.hid (And.intro hB (And.intro hP (And.intro hQ hO)))
        have hsr := hO.top
        clear hcell hx hcx HH hP hQ hO hB
        go_wp2_with fail
        refine (next_any w1.heap.size p cp K x wr H0.out.2.1 hfx.2).mono ?_
        rintro e w4 ⟨rfl, h4, o4⟩
        obtain ⟨r, hr⟩ : ∃ r, r = pickN K x := ⟨_, rfl⟩
        rw [← hr]
        have hs4 := o4.size
        have H4 := Lib.hid (show Below w.heap.size w w4 ∧ PkP w4 w1.heap.size p cp (pickL K x) ∧ PkP w4 w2.heap.size pq cq K ∧ PkP w4 w3.heap.size po co Z from
          ⟨H0.out.1.trans (o4.below (by omega) (fun k e => by omega)), h4, H0.out.2.2.1.keep o4 (by omega) (by omega), H0.out.2.2.2.keep o4 (by omega) (by omega)⟩)
        clear h4 o4 c0 H0
        go_wp2_with fail
        refine (next_any w3.heap.size po co Z 7 w4 H4.out.2.2.2 (by omega)).mono ?_
        rintro e w5 ⟨rfl, h5, o5⟩
        have hs5 := o5.size
        have H5 := Lib.hid (show Below w.heap.size w w5 ∧ PkP w5 w1.heap.size p cp (pickL K x) ∧ PkP w5 w2.heap.size pq cq K ∧ PkP w5 w3.heap.size po co (pickL Z 7) from
          ⟨H4.out.1.trans (o5.below (by omega) (fun k e => by omega)), H4.out.2.1.keep o5 (by omega) (by omega), H4.out.2.2.1.keep o5 (by omega) (by omega), h5⟩)
        have c1 := HX.out w5 H5.out.1
        clear h5 o5 H4
        go_wp2_with fail
        refine (next_any w2.heap.size pq cq K x w5 H5.out.2.2.1 hfx.2).mono ?_
        rintro e w6 ⟨rfl, h6, o6⟩
        rw [← hr]
        have hs6 := o6.size
        have H6 := Lib.hid (show Below w.heap.size w w6 ∧ PkP w6 w1.heap.size p cp (pickL K x) ∧ PkP w6 w2.heap.size pq cq (pickL K x) ∧ PkP w6 w3.heap.size po co (pickL Z 7) from
          ⟨H5.out.1.trans (o6.below (by omega) (fun k e => by omega)), H5.out.2.1.keep o6 (by omega) (by omega), h6, H5.out.2.2.2.keep o6 (by omega) (by omega)⟩)
        have HR := Lib.hid hr
        clear h6 o6 H5 c1 hr
        go_wp2_with fail
        refine (left_any w1.heap.size p cp (pickL K x) w6 H6.out.2.1).mono ?_
        rintro e w7 ⟨rfl, rfl⟩
        go_wp2_with fail
        refine (left_any w2.heap.size pq cq (pickL K x) w7 H6.out.2.2.1).mono ?_
        rintro e w8 ⟨rfl, rfl⟩
        go_wp2_with fail
        go_roundw
        case rel => exact ⟨i + 1, by go_num, hlt, by omega, H6.out.1, _, _, H6.out.2⟩
        case measure => simp [intOf] <;> omega
      · go_wp2
        go_ret
        exact ⟨rfl, HH.out.1⟩
    · go_wp2
      go_ret
      exact ⟨rfl, HH.out.1⟩

/- FRAME -/

set_option maxRecDepth 100000 in
theorem picksSame_lifted (os : Os) (started : os.Started) (H : Type) (enc : TypeId × Value → H) :
    ReturnsInHanded {} Try.checked os 7 .any (Rows.picksSameSpec.pre6 enc Try.prog Try.f7 Rows.picksSameRow.domain false) (Rows.picksSameSpec.post enc Try.prog Try.f7 false true false false) := by
  refine returnsInHanded_of_change (C := Try.checked) Try.own started (by kernel_rfl) Try.func7
    (ChangeSpec.witness6 (enc := enc) (C := Try.checked) false ⟨#[], #[.slice none 0 0, .slice none 0 0], []⟩ 8 (by kernel_rfl) (by kernel_rfl) (by kernel_rfl) (by kernel_rfl)) ?_
  intro W base args ds gs before hval0 hW _ _
  have hval : ∀ (j : Nat) t v, Try.f7.params[j]? = some t → args[j]? = some v → Value.okWide Try.prog W .any base t v := hval0
  have hW' := hW
  obtain ⟨p, q, hA0, hV, rfl, _, _⟩ := hW
  have hA : DataW.TrodAll enc Try.prog W 0 (fun _ => true) true Try.f7.params.toList args.toList ds p := hA0
  rw [Try.params7] at hA hval
  obtain ⟨v0, v1, d0, d1, p0, p1, rfl, rfl, rfl, h0, h1⟩ := trodAll_two hA
  obtain ⟨q0, c0, L0, rfl, le0, m0, sx0, fx0, td0⟩ := open_ints (hval 0 22 v0 rfl rfl) h0
  obtain ⟨q1, c1, L1, rfl, le1, m1, sx1, fx1, td1⟩ := open_ints (hval 1 22 v1 rfl rfl) h1
  clear hA0 hval0
  refine (same_walk q0 q1 c0 c1 L0 L1 W le0 m0 sx0 fx0 sx1 fx1).mono fun e W' ⟨he, hb⟩ => ⟨_, he, post_law rfl hW' rfl rfl ?_ hb⟩
  intro t ht
  rw [Try.params7] at ht
  simp only [List.mem_cons, List.not_mem_nil, or_false] at ht
  rcases ht with rfl | rfl <;> exact ⟨by kernel_rfl, of_decide_eq_true (by kernel_rfl)⟩

theorem picksSame_holds : Rows.PicksSameSaid :=
  OpenClaim.holds_of_wide 7 Try.f7 rfl rfl rfl rfl rfl rfl rfl ⟨rfl, rfl, rfl, rfl, rfl⟩ rfl rfl rfl rfl rfl (by kernel_rfl) Try.func7 (by kernel_rfl)
    (of_decide_eq_true (by kernel_rfl)) (by unfold Func.isWrapper; rw [if_neg (of_decide_eq_false (by kernel_rfl))]; exact ⟨rfl, rfl⟩)
    (fun os started H enc _ => picksSame_lifted os started H enc)

#print axioms picksSame_holds

end Go.Proofs.Ytklfccdjmlmmgaa
