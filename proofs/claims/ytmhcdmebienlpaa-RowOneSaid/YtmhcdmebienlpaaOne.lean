/- Two rows have the same bytes just if they are the same; and then one hash, and none goes ahead: whatever the rows. Conditions: none. -/
import Derived.Test.YtmhcdmebienlpaaEx2
import Derived.Test.YtmhcdmebienlpaaArgs
import Derived.Test.YtmhcdmebienlpaaRowPure
namespace Go.Proofs.Ytmhcdmebienlpaa
open Go.ChangeShapes Go.WideShapes Go.ChangeAt Go.RowKit Go.Joins

set_option maxHeartbeats 4000000 in
theorem one_walk (p q : Option Addr) (n cn m cm : Nat) (x y : Nat → Val) (w : World) (hn : n ≤ 9223372036854775807) (hm : m ≤ 9223372036854775807) (hX : RowP w p n x) (hY : RowP w q m y)
    (fx : ∀ i, i < n → inR (x i).n = true ∧ (x i).s.size ≤ 9223372036854775807) (fy : ∀ i, i < m → inR (y i).n = true ∧ (y i).s.size ≤ 9223372036854775807) :
    Calls Try.prog 6 #[.slice p n cn, .slice q m cm] w fun e w' => e = .returned (.bool true) ∧ Below w.heap.size w w' := by
  by_cases ex : encE n x = 0
  · by_cases ey : encE m y = 0
    · have hb := bytes_same ex ey (fun i hi => (fx i hi).1) (fun i hi => (fy i hi).1)
      have hc := cmpRow_zero (n := n) (m := m) (x := x) (y := y)
      have hh : same1 n m x y = true → hashTo x n = hashTo y m := by
        intro h
        obtain ⟨h1, h2⟩ := same1_iff.1 h
        subst h1
        exact hashTo_same h2
      have hs := sameRows_one n m x y
      cases hS : same1 n m x y
      · rw [hS] at hb hc hs
        have HB := Lib.hid hb
        have HC := Lib.hid hc
        have HS := Lib.hid hs
        clear hb hc hs hS hh
        go_enter Try.func6, Try.ntmps6
        go_wp2_with fail
        refine (ex2_any _).mono ?_
        rintro e w1 ⟨rfl, hb1⟩
        go_wp2_with fail
        refine (encode_any p n cn x _ hn (hX.ext hb1)).mono ?_
        rintro e w2 ⟨rfl, hb2⟩
        go_wp2_with fail
        refine (encode_any q m cm y _ hm ((hY.ext hb1).ext hb2)).mono ?_
        rintro e w3 ⟨rfl, hb3⟩
        go_wp2_with fail
        have HX := ((hX.ext hb1).ext hb2).ext hb3
        have HY := ((hY.ext hb1).ext hb2).ext hb3
        have L1 := list_one (x := x) (c := cn) (t := 22) ((Lib.alloc_old (w3.alloc (.cells #[.slice p n cn] 22)) (.cells #[.slice q m cm] 22) w3.heap.size (by simp)).trans (heap_alloc_new w3 _)) (HX.ext (((Below.refl _ _).alloc (Nat.le_refl _) _).alloc (by simp) _)) hn
        have L2 := list_one (x := y) (c := cm) (t := 22) (heap_alloc_new (w3.alloc (.cells #[.slice p n cn] 22)) (.cells #[.slice q m cm] 22)) (HY.ext (((Below.refl _ _).alloc (Nat.le_refl _) _).alloc (by simp) _)) hm
        rw [World.size_alloc] at L2
        refine (rows_any _ _ 1 1 1 1 _ _ _ _ _ _ _ _ _ (by omega) (by omega) L1 L2).mono ?_
        rintro e w4 ⟨rfl, hb4⟩
        rw [HS.out]
        clear L1 L2
        have hb5 : Below w3.heap.size w3 w4 := ext_trans (((Below.refl _ _).alloc (Nat.le_refl _) _).alloc (by simp) _) hb4
        have HX2 := HX.ext hb5
        have HY2 := HY.ext hb5
        clear hb4
        have hB := HB.out
        have hC := HC.out
        go_wp2_with fail
        refine (rowCompare_any p q n cn m cm x y _ hn hm HX2 HY2).mono ?_
        rintro e w6 ⟨rfl, hb6⟩
        go_wp2
        go_ret
        exact ⟨rfl, ext_trans (ext_trans (ext_trans (ext_trans hb1 hb2) hb3) hb5) hb6⟩
      · rw [hS] at hb hc hs
        have HB := Lib.hid hb
        have HC := Lib.hid hc
        have HS := Lib.hid hs
        have HH := Lib.hid (hh hS)
        clear hb hc hs hS hh
        go_enter Try.func6, Try.ntmps6
        go_wp2_with fail
        refine (ex2_any _).mono ?_
        rintro e w1 ⟨rfl, hb1⟩
        go_wp2_with fail
        refine (encode_any p n cn x _ hn (hX.ext hb1)).mono ?_
        rintro e w2 ⟨rfl, hb2⟩
        go_wp2_with fail
        refine (encode_any q m cm y _ hm ((hY.ext hb1).ext hb2)).mono ?_
        rintro e w3 ⟨rfl, hb3⟩
        go_wp2_with fail
        have HX := ((hX.ext hb1).ext hb2).ext hb3
        have HY := ((hY.ext hb1).ext hb2).ext hb3
        have L1 := list_one (x := x) (c := cn) (t := 22) ((Lib.alloc_old (w3.alloc (.cells #[.slice p n cn] 22)) (.cells #[.slice q m cm] 22) w3.heap.size (by simp)).trans (heap_alloc_new w3 _)) (HX.ext (((Below.refl _ _).alloc (Nat.le_refl _) _).alloc (by simp) _)) hn
        have L2 := list_one (x := y) (c := cm) (t := 22) (heap_alloc_new (w3.alloc (.cells #[.slice p n cn] 22)) (.cells #[.slice q m cm] 22)) (HY.ext (((Below.refl _ _).alloc (Nat.le_refl _) _).alloc (by simp) _)) hm
        rw [World.size_alloc] at L2
        refine (rows_any _ _ 1 1 1 1 _ _ _ _ _ _ _ _ _ (by omega) (by omega) L1 L2).mono ?_
        rintro e w4 ⟨rfl, hb4⟩
        rw [HS.out]
        clear L1 L2
        have hb5 : Below w3.heap.size w3 w4 := ext_trans (((Below.refl _ _).alloc (Nat.le_refl _) _).alloc (by simp) _) hb4
        have HX2 := HX.ext hb5
        have HY2 := HY.ext hb5
        clear hb4
        have hB := HB.out
        have hC : cmpRow n m x y = 0 := by simpa using HC.out
        go_wp2_with fail
        refine (rowCompare_any p q n cn m cm x y _ hn hm HX2 HY2).mono ?_
        rintro e w6 ⟨rfl, hb6⟩
        rw [hC]
        go_wp2_with fail
        refine (rowHash_any p n cn x _ hn (HX2.ext hb6) (fun i hi => (fx i hi).2)).mono ?_
        rintro e w7 ⟨rfl, hb7⟩
        rw [HH.out]
        go_wp2_with fail
        refine (rowHash_any q m cm y _ hm ((HY2.ext hb6).ext hb7) (fun i hi => (fy i hi).2)).mono ?_
        rintro e w8 ⟨rfl, hb8⟩
        go_wp2
        go_ret
        exact ⟨rfl, ext_trans (ext_trans (ext_trans (ext_trans (ext_trans (ext_trans hb1 hb2) hb3) hb5) hb6) hb7) hb8⟩
    · have b1 : (encE n x != 0) = false := by simp [ex]
      have b2 : (encE m y != 0) = true := by simpa using ey
      go_enter Try.func6, Try.ntmps6
      go_wp2_with fail
      refine (ex2_any _).mono ?_
      rintro e w1 ⟨rfl, hb1⟩
      go_wp2_with fail
      refine (encode_any p n cn x _ hn (hX.ext hb1)).mono ?_
      rintro e w2 ⟨rfl, hb2⟩
      go_wp2_with fail
      refine (encode_any q m cm y _ hm ((hY.ext hb1).ext hb2)).mono ?_
      rintro e w3 ⟨rfl, hb3⟩
      go_wp2
      go_ret
      exact ⟨rfl, ext_trans (ext_trans hb1 hb2) hb3⟩
  · have b1 : (encE n x != 0) = true := by simpa using ex
    go_enter Try.func6, Try.ntmps6
    go_wp2_with fail
    refine (ex2_any _).mono ?_
    rintro e w1 ⟨rfl, hb1⟩
    go_wp2_with fail
    refine (encode_any p n cn x _ hn (hX.ext hb1)).mono ?_
    rintro e w2 ⟨rfl, hb2⟩
    go_wp2_with fail
    refine (encode_any q m cm y _ hm ((hY.ext hb1).ext hb2)).mono ?_
    rintro e w3 ⟨rfl, hb3⟩
    go_wp2
    go_ret
    exact ⟨rfl, ext_trans (ext_trans hb1 hb2) hb3⟩

/- FRAME -/

set_option maxRecDepth 100000 in
theorem rowOne_lifted (os : Os) (started : os.Started) (H : Type) (enc : TypeId × Value → H) :
    ReturnsInHanded {} Try.checked os 6 .any (Rows.rowOneSpec.pre6 enc Try.prog Try.f6 Rows.rowOneRow.domain false) (Rows.rowOneSpec.post enc Try.prog Try.f6 false true false false) := by
  refine returnsInHanded_of_change (C := Try.checked) Try.own started (by kernel_rfl) Try.func6
    (ChangeSpec.witness6 (enc := enc) (C := Try.checked) false ⟨#[], #[.slice none 0 0, .slice none 0 0], []⟩ 8 (by kernel_rfl) (by kernel_rfl) (by kernel_rfl) (by kernel_rfl)) ?_
  intro W base args ds gs before hval0 hW _ _
  have hval : ∀ (j : Nat) t v, Try.f6.params[j]? = some t → args[j]? = some v → Value.okWide Try.prog W .any base t v := hval0
  have hW' := hW
  obtain ⟨p, q, hA0, hV, rfl, _, _⟩ := hW
  have hA : DataW.TrodAll enc Try.prog W 0 (fun _ => true) true Try.f6.params.toList args.toList ds p := hA0
  rw [Try.params6] at hA hval
  obtain ⟨v0, v1, d0, d1, p0, p1, rfl, rfl, rfl, h0, h1⟩ := trodAll_two hA
  obtain ⟨a0, n0, c0, x0, ax0⟩ := (open_vals (hval 0 22 v0 rfl rfl) h0).arg
  obtain rfl := ax0.eq
  obtain ⟨a1, n1, c1, x1, ax1⟩ := (open_vals (hval 1 22 v1 rfl rfl) h1).arg
  obtain rfl := ax1.eq
  clear hA0 hval0
  refine (one_walk a0 a1 n0 c0 n1 c1 x0 x1 W ax0.le ax1.le ax0.row ax1.row ax0.fit ax1.fit).mono fun e W' ⟨he, hb⟩ => ⟨_, he, post_law rfl hW' rfl rfl ?_ hb⟩
  intro t ht
  rw [Try.params6] at ht
  simp only [List.mem_cons, List.not_mem_nil, or_false] at ht
  rcases ht with rfl | rfl <;> exact ⟨by kernel_rfl, of_decide_eq_true (by kernel_rfl)⟩

theorem rowOne_holds : Rows.RowOneSaid :=
  OpenClaim.holds_of_wide 6 Try.f6 rfl rfl rfl rfl rfl rfl rfl ⟨rfl, rfl, rfl, rfl, rfl⟩ rfl rfl rfl rfl rfl (by kernel_rfl) Try.func6 (by kernel_rfl)
    (of_decide_eq_true (by kernel_rfl)) (by unfold Func.isWrapper; rw [if_neg (of_decide_eq_false (by kernel_rfl))]; exact ⟨rfl, rfl⟩)
    (fun os started H enc _ => rowOne_lifted os started H enc)

#print axioms rowOne_holds

end Go.Proofs.Ytmhcdmebienlpaa
