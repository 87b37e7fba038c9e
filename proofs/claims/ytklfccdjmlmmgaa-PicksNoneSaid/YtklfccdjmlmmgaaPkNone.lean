/- Without numbers the first thing is chosen each time, and an order is as it was: whatever the numbers. Conditions: none. -/
import Derived.Test.YtklfccdjmlmmgaaPkE
import Derived.Test.YtklfccdjmlmmgaaPkA
namespace Go.Proofs.Ytklfccdjmlmmgaa
open Go.ChangeShapes Go.WideShapes Go.ChangeAt Go.RowKit Go.Joins

set_option maxRecDepth 100000 in
set_option maxHeartbeats 2000000 in
theorem none_walk (n m : Int) (w : World) (hn : inR n = true) (hm : inR m = true) :
    Calls Try.prog 6 #[.int .i64 n, .int .i64 m] w fun e w' => e = .returned (.bool true) ∧ Below w.heap.size w w' := by
  have hn2 := of_inR hn
  have hm2 := (of_inR hm).2
  clear hn hm
  have f0 : Fit [] := fun x hx => absurd hx (by simp)
  go_enter Try.func6, Try.ntmps6
  go_wp2_with fail
  refine (ex4_any _).mono ?_
  rintro e w0 ⟨rfl, hb0⟩
  go_wp2_with fail
  refine (new_some none 0 0 [] w0 (fun i h => by simp; omega) (by omega) (by omega) (fun i hi => absurd hi (by simp)) f0 (by simp)).mono ?_
  rintro e w1 ⟨p, c, rfl, hP, hp, hc, hb⟩
  have E1 := Lib.hid (hb0.trans (hb.mono hb0.size))
  have P1 := Lib.hid hP
  have hs0 := hb0.size
  have hs1 : w.heap.size ≤ w1.heap.size := Nat.le_trans hs0 hb.size
  have hcl := hP.lowc
  clear hb hP hb0
  by_cases h200 : 200 < n
  · obtain ⟨k, hk⟩ : ∃ k, k = n % 201 := ⟨_, rfl⟩
    have hk0 : 0 ≤ k ∧ k ≤ 200 := by
      omega
    obtain ⟨N, hN'⟩ : ∃ N, N = k.toNat := ⟨_, rfl⟩
    have hN : ordN k = N := by rw [ordN_small hk0.2, hN']
    have hmax : max 0 k = (N : Int) := by omega
    clear hN'
    go_wp2_with fail
    rw [← hk]
    have HK := Lib.hid hk
    clear hk
    refine (shuffle_any w1.heap.size p c [] k w1 P1.out (by omega) (by omega)).mono ?_
    rintro e w2 ⟨⟨v, rfl, hv⟩, h2, o2⟩
    rw [hN, shuf_nil N (iota N) (iota_len N)] at hv h2
    obtain ⟨q, cq, rfl, _, _, hs⟩ := hv.srcI
    rw [iota_len]
    rw [iota_len] at *
    have hb2 : Below w.heap.size w w2 := E1.out.trans (o2.below hs1 (fun k e => by omega))
    have H2 := Lib.hid (And.intro hs (And.intro h2 hb2))
    have hs2 := o2.size
    clear hs h2 o2 hb2 hv
    go_wp2
    go_loopw [8] (fun vi wr => ∃ i : Nat, vi = .int .i64 i ∧ i ≤ N ∧ Hid (Below w2.heap.size w2 wr)) (fun vi _ => N - (intOf vi).toNat)
    case atStart => exact ⟨0, rfl, Nat.zero_le _, Below.refl _ _⟩
    case round =>
      obtain ⟨i, rfl, hi, HH⟩ := hrel
      by_cases hlt : i < N
      · obtain ⟨g, off, rfl, hg, hcell⟩ := H2.out.1 i (by rw [iota_len]; exact hlt)
        have c0 := (HH.out.cell (p := ⟨g, off + i, none⟩) hg).trans (hcell i i (iota_get hlt))
        clear hcell
        go_wp2
        go_roundw
        case rel => exact ⟨i + 1, by go_num, hlt, HH.out⟩
        case measure => simp [intOf] <;> omega
      · have hiN : i = N := by omega
        subst hiN
        have P3 := Lib.hid (H2.out.2.1.ext (HH.out.mono hs2))
        have E3 := Lib.hid (H2.out.2.2.trans (HH.out.mono (Nat.le_trans hs1 hs2)))
        have hwr := HH.out.size
        clear H2
        go_wp2_with fail
        refine (next_any w1.heap.size p c [] m wr P3.out hm2).mono ?_
        rintro e w4 ⟨rfl, h4, o4⟩
        rw [pickN_nil]
        rw [pickL_nil] at h4
        go_wp2_with fail
        refine (left_any w1.heap.size p c [] w4 h4).mono ?_
        rintro e w5 ⟨rfl, rfl⟩
        go_wp2
        go_ret
        exact ⟨rfl, E3.out.trans (o4.below (by omega) (fun k e => by omega))⟩
  · obtain ⟨k, hk⟩ : ∃ k, k = n := ⟨_, rfl⟩
    have hk0 : k ≤ 200 := by omega
    obtain ⟨N, hN'⟩ : ∃ N, N = k.toNat := ⟨_, rfl⟩
    have hN : ordN k = N := by rw [ordN_small hk0, hN']
    have hmax : max 0 k = (N : Int) := by omega
    clear hN'
    subst hk
    go_wp2_with fail
    refine (shuffle_any w1.heap.size p c [] k w1 P1.out (by omega) (by omega)).mono ?_
    rintro e w2 ⟨⟨v, rfl, hv⟩, h2, o2⟩
    rw [hN, shuf_nil N (iota N) (iota_len N)] at hv h2
    obtain ⟨q, cq, rfl, _, _, hs⟩ := hv.srcI
    rw [iota_len]
    rw [iota_len] at *
    have hb2 : Below w.heap.size w w2 := E1.out.trans (o2.below hs1 (fun k e => by omega))
    have H2 := Lib.hid (And.intro hs (And.intro h2 hb2))
    have hs2 := o2.size
    clear hs h2 o2 hb2 hv
    go_wp2
    go_loopw [8] (fun vi wr => ∃ i : Nat, vi = .int .i64 i ∧ i ≤ N ∧ Hid (Below w2.heap.size w2 wr)) (fun vi _ => N - (intOf vi).toNat)
    case atStart => exact ⟨0, rfl, Nat.zero_le _, Below.refl _ _⟩
    case round =>
      obtain ⟨i, rfl, hi, HH⟩ := hrel
      by_cases hlt : i < N
      · obtain ⟨g, off, rfl, hg, hcell⟩ := H2.out.1 i (by rw [iota_len]; exact hlt)
        have c0 := (HH.out.cell (p := ⟨g, off + i, none⟩) hg).trans (hcell i i (iota_get hlt))
        clear hcell
        go_wp2
        go_roundw
        case rel => exact ⟨i + 1, by go_num, hlt, HH.out⟩
        case measure => simp [intOf] <;> omega
      · have hiN : i = N := by omega
        subst hiN
        have P3 := Lib.hid (H2.out.2.1.ext (HH.out.mono hs2))
        have E3 := Lib.hid (H2.out.2.2.trans (HH.out.mono (Nat.le_trans hs1 hs2)))
        have hwr := HH.out.size
        clear H2
        go_wp2_with fail
        refine (next_any w1.heap.size p c [] m wr P3.out hm2).mono ?_
        rintro e w4 ⟨rfl, h4, o4⟩
        rw [pickN_nil]
        rw [pickL_nil] at h4
        go_wp2_with fail
        refine (left_any w1.heap.size p c [] w4 h4).mono ?_
        rintro e w5 ⟨rfl, rfl⟩
        go_wp2
        go_ret
        exact ⟨rfl, E3.out.trans (o4.below (by omega) (fun k e => by omega))⟩

/- FRAME -/

set_option maxRecDepth 100000 in
theorem picksNone_lifted (os : Os) (started : os.Started) (H : Type) (enc : TypeId × Value → H) :
    ReturnsInHanded {} Try.checked os 6 .any (Rows.picksNoneSpec.pre6 enc Try.prog Try.f6 Rows.picksNoneRow.domain false) (Rows.picksNoneSpec.post enc Try.prog Try.f6 false true false false) := by
  refine returnsInHanded_of_change (C := Try.checked) Try.own started (by kernel_rfl) Try.func6
    (ChangeSpec.witness6 (enc := enc) (C := Try.checked) false ⟨#[], #[.int .i64 0, .int .i64 0], []⟩ 8 (by kernel_rfl) (by kernel_rfl) (by kernel_rfl) (by kernel_rfl)) ?_
  intro W base args ds gs before hval0 hW _ _
  have hval : ∀ (j : Nat) t v, Try.f6.params[j]? = some t → args[j]? = some v → Value.okWide Try.prog W .any base t v := hval0
  have hW' := hW
  obtain ⟨p, q, hA0, hV, rfl, _, _⟩ := hW
  have hA : DataW.TrodAll enc Try.prog W 0 (fun _ => true) true Try.f6.params.toList args.toList ds p := hA0
  rw [Try.params6] at hA hval
  obtain ⟨v0, v1, d0, d1, p0, p1, rfl, rfl, rfl, h0, h1⟩ := trodAll_two hA
  obtain ⟨z0, rfl, iz0⟩ := open_num (hval 0 3 v0 rfl rfl) h0
  obtain ⟨z1, rfl, iz1⟩ := open_num (hval 1 3 v1 rfl rfl) h1
  clear hA0 hval0
  refine (none_walk z0 z1 W iz0 iz1).mono fun e W' ⟨he, hb⟩ => ⟨_, he, post_law rfl hW' rfl rfl ?_ hb⟩
  intro t ht
  rw [Try.params6] at ht
  simp only [List.mem_cons, List.not_mem_nil, or_false] at ht
  rcases ht with rfl | rfl <;> exact ⟨by kernel_rfl, of_decide_eq_true (by kernel_rfl)⟩

theorem picksNone_holds : Rows.PicksNoneSaid :=
  OpenClaim.holds_of_wide 6 Try.f6 rfl rfl rfl rfl rfl rfl rfl ⟨rfl, rfl, rfl, rfl, rfl⟩ rfl rfl rfl rfl rfl (by kernel_rfl) Try.func6 (by kernel_rfl)
    (of_decide_eq_true (by kernel_rfl)) (by unfold Func.isWrapper; rw [if_neg (of_decide_eq_false (by kernel_rfl))]; exact ⟨rfl, rfl⟩)
    (fun os started H enc _ => picksNone_lifted os started H enc)

#print axioms picksNone_holds

end Go.Proofs.Ytklfccdjmlmmgaa
