/- Each choice lies within what there is; each takes one number, as long as there is one: whatever the numbers. Conditions: none. -/
import Derived.Test.YtklfccdjmlmmgaaPkE
import Derived.Test.YtklfccdjmlmmgaaPkA
namespace Go.Proofs.Ytklfccdjmlmmgaa
open Go.ChangeShapes Go.WideShapes Go.ChangeAt Go.RowKit Go.Joins

theorem pickL_len (K : List Int) (x : Int) (hx : ¬ x < 1) : (pickL K x).length = K.length - 1 := by
  unfold pickL
  rw [if_neg hx, List.length_tail]

set_option maxRecDepth 100000 in
set_option maxHeartbeats 2000000 in
theorem within_walk (q q' : Option Addr) (c c' : Nat) (L C : List Int) (w : World) (hc : L.length ≤ c) (hc2 : c ≤ 9223372036854775807) (hS : SrcI w w.heap.size q L) (hF : Fit L) (hS' : SrcI w w.heap.size q' C) (hF' : Fit C) :
    Calls Try.prog 4 #[.slice q L.length c, .slice q' C.length c'] w fun e w' => e = .returned (.bool true) ∧ Below w.heap.size w w' := by
  have HS := Lib.hid hS
  have HF := Lib.hid hF
  have HS' := Lib.hid hS'
  have HF' := Lib.hid hF'
  clear hS hF hS' hF'
  go_enter Try.func4, Try.ntmps4
  go_wp2_with fail
  refine (ex4_any _).mono ?_
  rintro e w0 ⟨rfl, hb0⟩
  have hs0 := hb0.size
  have E0 := Lib.hid hb0
  clear hb0
  go_wp2_with fail
  refine (new_some q c L.length (L.take 1000) w0 (fun i h => by rw [List.length_take]; omega) hc hc2 ((HS.out.ext E0.out).up hs0 |>.take 1000) (fun x hx => HF.out x (List.mem_of_mem_take hx)) (by rw [List.length_take]; omega)).mono ?_
  rintro e w1 ⟨p, ch, rfl, hP, hp, hch, hb⟩
  have E1 := Lib.hid (E0.out.trans (hb.mono hs0))
  have P1 := Lib.hid hP
  have hs1 : w.heap.size ≤ w1.heap.size := Nat.le_trans hs0 hb.size
  have hlc := hP.lowc
  clear hb hP
  have hmin : min (L.length : Int) 1000 = ((L.take 1000).length : Int) := by rw [List.length_take]; omega
  have hk1 : (L.take 1000).length ≤ 1000 := by rw [List.length_take]; omega
  obtain ⟨K1, hK1⟩ : ∃ K, K = L.take 1000 := ⟨_, rfl⟩
  rw [← hK1] at P1 hmin hk1
  have HK1 := Lib.hid hK1
  clear hK1
  go_wp2_with fail
  refine (left_any w1.heap.size p ch K1 w1 P1.out).mono ?_
  rintro e w2 ⟨rfl, rfl⟩
  go_wp2_with fail
  go_loopw [7] (fun vi wr => ∃ i : Nat, vi = .int .i64 i ∧ i ≤ C.length ∧ i ≤ 100 ∧ Hid (∃ K, K.length ≤ 1000 ∧ PkP wr w2.heap.size p ch K ∧ Below w.heap.size w wr)) (fun vi _ => 100 - (intOf vi).toNat)
  case atStart => exact ⟨0, rfl, Nat.zero_le _, Nat.zero_le _, K1, hk1, P1.out, E1.out⟩
  case round =>
    obtain ⟨i, rfl, hi, hi2, HH⟩ := hrel
    by_cases hlt : i < C.length
    · by_cases hlt2 : (i : Int) < 100
      · obtain ⟨g, off, rfl, hg, hcell⟩ := HS'.out i hlt
        obtain ⟨K, hK, hP, hB⟩ := HH.out
        obtain ⟨x, hx⟩ : ∃ x, x = C[i] := ⟨_, rfl⟩
        have hfx := HF'.out x (by rw [hx]; exact List.getElem_mem hlt)
        have hcx : ∀ W, Below w.heap.size w W → W.cell? ⟨g, off + i, none⟩ = some (.int .i64 x) := fun W h => (h.cell (p := ⟨g, off + i, none⟩) hg).trans (hcell i x (by rw [hx]; exact List.getElem?_eq_getElem hlt))
        have c0 := hcx wr hB
        have HX := Lib.hid hcx
        have HP := Lib.hid hP
        have HB := Lib.hid hB
        have hsr := hP.top
        obtain ⟨m, hm⟩ : ∃ m, m = K.length := ⟨_, rfl⟩
        have hm2 : m ≤ 1000 := by omega
        have HM := Lib.hid hm
        clear hcell hx hcx HH hP hB hm
        go_wp2_with fail
        refine (left_any w2.heap.size p ch K wr HP.out).mono ?_
        rintro e w3 ⟨rfl, rfl⟩
        rw [← HM.out]
        go_wp2_with fail
        refine (next_any w2.heap.size p ch K x w3 HP.out hfx.2).mono ?_
        rintro e w4 ⟨rfl, h4, o4⟩
        have hB4 : Below w.heap.size w w4 := HB.out.trans (o4.below (by omega) (fun k e => by omega))
        have c1 := HX.out w4 hB4
        have H4 := Lib.hid (And.intro h4 hB4)
        clear h4 o4 hB4 c0
        by_cases hx1 : x < 1
        · have hL : pickL K x = K := by unfold pickL; rw [if_pos hx1]
          rw [show pickN K x = 0 by unfold pickN; rw [if_pos hx1]]
          rw [hL] at H4
          have hx2 : ¬ (1 : Int) ≤ x := by omega
          have hLN : ∀ W, PkP W w2.heap.size p ch K → Calls Try.prog 16 #[.pointer (some ⟨p, 0, none⟩)] W fun e w' => e = .returned (.int .i64 m) ∧ w' = W := fun W h => by rw [HM.out]; exact left_any _ _ _ _ _ h
          have HLN := Lib.hid hLN
          clear hLN
          go_wp2_with fail
          refine (HLN.out w4 H4.out.1).mono ?_
          rintro e w5 ⟨rfl, rfl⟩
          go_wp2_with fail
          go_roundw
          case rel => exact ⟨i + 1, by go_num, hlt, by omega, K, hK, H4.out.1, H4.out.2⟩
          case measure => simp [intOf] <;> omega
        · have hx2 : (1 : Int) ≤ x := by omega
          obtain ⟨r, hr⟩ : ∃ r, r = pickN K x := ⟨_, rfl⟩
          have hr2 := pickN_lt K x (by omega)
          rw [← hr] at hr2 ⊢
          obtain ⟨hr3, hr4⟩ := hr2
          have hr5 : ¬ r < 0 := by omega
          have hr6 : ¬ x ≤ r := by omega
          have hll := pickL_len K x hx1
          have hmx : max 0 ((m : Int) - 1) = ((m - 1 : Nat) : Int) := by omega
          have hLN : ∀ W, PkP W w2.heap.size p ch (pickL K x) → Calls Try.prog 16 #[.pointer (some ⟨p, 0, none⟩)] W fun e w' => e = .returned (.int .i64 ((m - 1 : Nat) : Int)) ∧ w' = W := fun W h => by rw [HM.out, ← hll]; exact left_any _ _ _ _ _ h
          have HLN := Lib.hid hLN
          have HLR := Lib.hid (And.intro hll hr)
          clear hLN hll hr
          go_wp2_with fail
          refine (HLN.out w4 H4.out.1).mono ?_
          rintro e w5 ⟨rfl, rfl⟩
          go_wp2_with fail
          go_roundw
          case rel => exact ⟨i + 1, by go_num, hlt, by omega, pickL K x, by have := HLR.out; omega, H4.out.1, H4.out.2⟩
          case measure => simp [intOf] <;> omega
      · obtain ⟨K, _, _, hB⟩ := HH.out
        clear HH
        go_wp2
        go_ret
        exact ⟨rfl, hB⟩
    · obtain ⟨K, _, _, hB⟩ := HH.out
      clear HH
      go_wp2
      go_ret
      exact ⟨rfl, hB⟩

/- FRAME -/

set_option maxRecDepth 100000 in
theorem picksWithin_lifted (os : Os) (started : os.Started) (H : Type) (enc : TypeId × Value → H) :
    ReturnsInHanded {} Try.checked os 4 .any (Rows.picksWithinSpec.pre6 enc Try.prog Try.f4 Rows.picksWithinRow.domain false) (Rows.picksWithinSpec.post enc Try.prog Try.f4 false true false false) := by
  refine returnsInHanded_of_change (C := Try.checked) Try.own started (by kernel_rfl) Try.func4
    (ChangeSpec.witness6 (enc := enc) (C := Try.checked) false ⟨#[], #[.slice none 0 0, .slice none 0 0], []⟩ 8 (by kernel_rfl) (by kernel_rfl) (by kernel_rfl) (by kernel_rfl)) ?_
  intro W base args ds gs before hval0 hW _ _
  have hval : ∀ (j : Nat) t v, Try.f4.params[j]? = some t → args[j]? = some v → Value.okWide Try.prog W .any base t v := hval0
  have hW' := hW
  obtain ⟨p, q, hA0, hV, rfl, _, _⟩ := hW
  have hA : DataW.TrodAll enc Try.prog W 0 (fun _ => true) true Try.f4.params.toList args.toList ds p := hA0
  rw [Try.params4] at hA hval
  obtain ⟨v0, v1, d0, d1, p0, p1, rfl, rfl, rfl, h0, h1⟩ := trodAll_two hA
  obtain ⟨q0, c0, L0, rfl, le0, m0, sx0, fx0, td0⟩ := open_ints (hval 0 22 v0 rfl rfl) h0
  obtain ⟨q1, c1, L1, rfl, le1, m1, sx1, fx1, td1⟩ := open_ints (hval 1 22 v1 rfl rfl) h1
  clear hA0 hval0
  refine (within_walk q0 q1 c0 c1 L0 L1 W le0 m0 sx0 fx0 sx1 fx1).mono fun e W' ⟨he, hb⟩ => ⟨_, he, post_law rfl hW' rfl rfl ?_ hb⟩
  intro t ht
  rw [Try.params4] at ht
  simp only [List.mem_cons, List.not_mem_nil, or_false] at ht
  rcases ht with rfl | rfl <;> exact ⟨by kernel_rfl, of_decide_eq_true (by kernel_rfl)⟩

theorem picksWithin_holds : Rows.PicksWithinSaid :=
  OpenClaim.holds_of_wide 4 Try.f4 rfl rfl rfl rfl rfl rfl rfl ⟨rfl, rfl, rfl, rfl, rfl⟩ rfl rfl rfl rfl rfl (by kernel_rfl) Try.func4 (by kernel_rfl)
    (of_decide_eq_true (by kernel_rfl)) (by unfold Func.isWrapper; rw [if_neg (of_decide_eq_false (by kernel_rfl))]; exact ⟨rfl, rfl⟩)
    (fun os started H enc _ => picksWithin_lifted os started H enc)

#print axioms picksWithin_holds

end Go.Proofs.Ytklfccdjmlmmgaa
