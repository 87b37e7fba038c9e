/- A row that is written is read as it was; what was read is right, and written as it stood: whatever the row, whatever the bytes. Conditions: none. -/
import Derived.Test.YtmhcdmebienlpaaEx2
import Derived.Test.YtmhcdmebienlpaaArgs
import Derived.Test.YtmhcdmebienlpaaRowPure
namespace Go.Proofs.Ytmhcdmebienlpaa
open Go.ChangeShapes Go.WideShapes Go.ChangeAt Go.RowKit Go.Joins

set_option maxHeartbeats 4000000 in
theorem back_walk (p : Option Addr) (n cn : Nat) (x : Nat → Val) (s : ByteArray) (w : World) (hn : n ≤ 9223372036854775807) (hX : RowP w p n x)
    (fx : ∀ i, i < n → inR (x i).n = true ∧ (x i).s.size ≤ 9223372036854775807) (hs : s.size ≤ 9223372036854775807) :
    Calls Try.prog 5 #[.slice p n cn, .string s] w fun e w' => e = .returned (.bool true) ∧ Below w.heap.size w w' := by
  by_cases ex : encE n x = 0
  · have HR := Lib.hid (show (allRight n x && decide (n ≤ 100)) = true by have := encE_zero.1 ex; simp [this])
    have HB := Lib.hid (read_back ex (fun i hi => (fx i hi).1))
    have HS := Lib.hid (show same1 n n (fun i => ((List.range n).map x)[i]?.getD nul) x = true from same1_iff.2 ⟨rfl, fun i hi => by simp [hi]⟩)
    have hlen : ((List.range n).map x).length = n := by simp
    have hsz : (encS n x).size ≤ 9223372036854775807 := by
      have h := (encRow_length x n (encE_zero.1 ex).2).2
      have h2 := (encE_zero.1 ex).1
      rw [encS_of ex]
      show (encRow x n).toArray.size ≤ _
      simp
      omega
    clear fx
    cases hd : decRun s.size s []
    · have HD := Lib.hid hd
      clear hd
      go_enter Try.func5, Try.ntmps5
      go_wp2_with fail
      refine (ex2_any _).mono ?_
      rintro e w1 ⟨rfl, hb1⟩
      have E1 := hb1
      have H1 := hX.ext hb1
      go_wp2_with fail
      refine (encode_any p n cn x _ hn H1).mono ?_
      rintro e w2 ⟨rfl, hb2⟩
      have E2 := ext_trans E1 hb2
      have H2 := H1.ext hb2
      go_wp2_with fail
      refine (decode_any (encS n x) _ hsz).mono ?_
      rintro e w3 ⟨hD, hb3⟩
      have E3 := ext_trans E2 hb3
      have H3 := H2.ext hb3
      rw [HB.out] at hD
      obtain ⟨v, rfl, HO⟩ := hD
      obtain ⟨p3, c3, rfl, R3, _, _⟩ := HO.row
      rw [hlen] at R3 ⊢
      clear HO
      go_wp2_with fail
      have L1 := list_one (x := fun i => ((List.range n).map x)[i]?.getD nul) (c := c3) (t := 22) ((Lib.alloc_old (w3.alloc (.cells #[.slice p3 n c3] 22)) (.cells #[.slice p n cn] 22) w3.heap.size (by simp)).trans (heap_alloc_new w3 _)) (R3.ext (((Below.refl _ _).alloc (Nat.le_refl _) _).alloc (by simp) _)) hn
      have L2 := list_one (x := x) (c := cn) (t := 22) (heap_alloc_new (w3.alloc (.cells #[.slice p3 n c3] 22)) (.cells #[.slice p n cn] 22)) (H3.ext (((Below.refl _ _).alloc (Nat.le_refl _) _).alloc (by simp) _)) hn
      rw [World.size_alloc] at L2
      refine (rows_any _ _ 1 1 1 1 _ _ _ _ _ _ _ _ _ (by omega) (by omega) L1 L2).mono ?_
      rintro e w4 ⟨rfl, hb4⟩
      rw [sameRows_one, HS.out]
      clear L1 L2
      have hb5 : Below w3.heap.size w3 w4 := ext_trans (((Below.refl _ _).alloc (Nat.le_refl _) _).alloc (by simp) _) hb4
      clear hb4
      have E4 := ext_trans E3 hb5
      have H4 := H3.ext hb5
      go_wp2_with fail
      refine (decode_any s _ hs).mono ?_
      rintro e w6 ⟨hD, hb6⟩
      have E6 := ext_trans E4 hb6
      have H6 := H4.ext hb6
      rw [HD.out] at hD
      have hD : e = .returned (.tuple #[.slice none 0 0, .int .i64 2]) := hD
      subst hD
      go_wp2_with fail
      refine (rowRight_any p n cn x _ hn H6).mono ?_
      rintro e w7 ⟨rfl, hb7⟩
      rw [HR.out]
      go_wp2
      go_ret
      exact ⟨rfl, ext_trans E6 hb7⟩
    · rename_i L
      obtain ⟨L', e1, e2, e3, e4⟩ := dec_enc _ _ _ _ (Nat.le_refl _) (by simp) hd
      obtain rfl : L = L' := by simpa using e1
      obtain ⟨l1, l2, l3⟩ := enc_list e2 e3 e4
      have HLE := Lib.hid l1
      have HLS := Lib.hid l2
      have HLR := Lib.hid l3
      have hL : L.length ≤ 9223372036854775807 := by omega
      have HD := Lib.hid hd
      clear hd e1 e2 e3 e4 l1 l2 l3
      go_enter Try.func5, Try.ntmps5
      go_wp2_with fail
      refine (ex2_any _).mono ?_
      rintro e w1 ⟨rfl, hb1⟩
      have E1 := hb1
      have H1 := hX.ext hb1
      go_wp2_with fail
      refine (encode_any p n cn x _ hn H1).mono ?_
      rintro e w2 ⟨rfl, hb2⟩
      have E2 := ext_trans E1 hb2
      have H2 := H1.ext hb2
      go_wp2_with fail
      refine (decode_any (encS n x) _ hsz).mono ?_
      rintro e w3 ⟨hD, hb3⟩
      have E3 := ext_trans E2 hb3
      have H3 := H2.ext hb3
      rw [HB.out] at hD
      obtain ⟨v, rfl, HO⟩ := hD
      obtain ⟨p3, c3, rfl, R3, _, _⟩ := HO.row
      rw [hlen] at R3 ⊢
      clear HO
      go_wp2_with fail
      have L1 := list_one (x := fun i => ((List.range n).map x)[i]?.getD nul) (c := c3) (t := 22) ((Lib.alloc_old (w3.alloc (.cells #[.slice p3 n c3] 22)) (.cells #[.slice p n cn] 22) w3.heap.size (by simp)).trans (heap_alloc_new w3 _)) (R3.ext (((Below.refl _ _).alloc (Nat.le_refl _) _).alloc (by simp) _)) hn
      have L2 := list_one (x := x) (c := cn) (t := 22) (heap_alloc_new (w3.alloc (.cells #[.slice p3 n c3] 22)) (.cells #[.slice p n cn] 22)) (H3.ext (((Below.refl _ _).alloc (Nat.le_refl _) _).alloc (by simp) _)) hn
      rw [World.size_alloc] at L2
      refine (rows_any _ _ 1 1 1 1 _ _ _ _ _ _ _ _ _ (by omega) (by omega) L1 L2).mono ?_
      rintro e w4 ⟨rfl, hb4⟩
      rw [sameRows_one, HS.out]
      clear L1 L2
      have hb5 : Below w3.heap.size w3 w4 := ext_trans (((Below.refl _ _).alloc (Nat.le_refl _) _).alloc (by simp) _) hb4
      clear hb4
      have E4 := ext_trans E3 hb5
      have H4 := H3.ext hb5
      go_wp2_with fail
      refine (decode_any s _ hs).mono ?_
      rintro e w6 ⟨hD, hb6⟩
      have E6 := ext_trans E4 hb6
      have H6 := H4.ext hb6
      rw [HD.out] at hD
      obtain ⟨v, rfl, HO2⟩ := hD
      obtain ⟨p6, c6, rfl, R6, _, _⟩ := HO2.row
      clear HO2
      go_wp2_with fail
      refine (encode_any p6 L.length c6 _ _ hL R6).mono ?_
      rintro e w7 ⟨rfl, hb7⟩
      rw [HLE.out, HLS.out]
      have E7 := ext_trans E6 hb7
      have H7 := H6.ext hb7
      have R7 := R6.ext hb7
      go_wp2_with fail
      refine (rowRight_any p6 L.length c6 _ _ hL R7).mono ?_
      rintro e w8 ⟨rfl, hb8⟩
      rw [HLR.out]
      have E8 := ext_trans E7 hb8
      have H8 := H7.ext hb8
      go_wp2_with fail
      refine (rowRight_any p n cn x _ hn H8).mono ?_
      rintro e w9 ⟨rfl, hb9⟩
      rw [HR.out]
      go_wp2
      go_ret
      exact ⟨rfl, ext_trans E8 hb9⟩
  · have HR := Lib.hid (show (allRight n x && decide (n ≤ 100)) = false by
      cases hq : (allRight n x && decide (n ≤ 100))
      · rfl
      · simp only [Bool.and_eq_true, decide_eq_true_eq] at hq
        exact absurd (encE_zero.2 ⟨hq.2, hq.1⟩) ex)
    have b1 : (encE n x == 0) = false := by simpa using ex
    clear fx
    cases hd : decRun s.size s []
    · have HD := Lib.hid hd
      clear hd
      go_enter Try.func5, Try.ntmps5
      go_wp2_with fail
      refine (ex2_any _).mono ?_
      rintro e w1 ⟨rfl, hb1⟩
      have E1 := hb1
      have H1 := hX.ext hb1
      go_wp2_with fail
      refine (encode_any p n cn x _ hn H1).mono ?_
      rintro e w2 ⟨rfl, hb2⟩
      have E2 := ext_trans E1 hb2
      have H2 := H1.ext hb2
      go_wp2_with fail
      refine (decode_any s _ hs).mono ?_
      rintro e w6 ⟨hD, hb6⟩
      have E6 := ext_trans E2 hb6
      have H6 := H2.ext hb6
      rw [HD.out] at hD
      have hD : e = .returned (.tuple #[.slice none 0 0, .int .i64 2]) := hD
      subst hD
      go_wp2_with fail
      refine (rowRight_any p n cn x _ hn H6).mono ?_
      rintro e w7 ⟨rfl, hb7⟩
      rw [HR.out]
      go_wp2
      go_ret
      exact ⟨rfl, ext_trans E6 hb7⟩
    · rename_i L
      obtain ⟨L', e1, e2, e3, e4⟩ := dec_enc _ _ _ _ (Nat.le_refl _) (by simp) hd
      obtain rfl : L = L' := by simpa using e1
      obtain ⟨l1, l2, l3⟩ := enc_list e2 e3 e4
      have HLE := Lib.hid l1
      have HLS := Lib.hid l2
      have HLR := Lib.hid l3
      have hL : L.length ≤ 9223372036854775807 := by omega
      have HD := Lib.hid hd
      clear hd e1 e2 e3 e4 l1 l2 l3
      go_enter Try.func5, Try.ntmps5
      go_wp2_with fail
      refine (ex2_any _).mono ?_
      rintro e w1 ⟨rfl, hb1⟩
      have E1 := hb1
      have H1 := hX.ext hb1
      go_wp2_with fail
      refine (encode_any p n cn x _ hn H1).mono ?_
      rintro e w2 ⟨rfl, hb2⟩
      have E2 := ext_trans E1 hb2
      have H2 := H1.ext hb2
      go_wp2_with fail
      refine (decode_any s _ hs).mono ?_
      rintro e w6 ⟨hD, hb6⟩
      have E6 := ext_trans E2 hb6
      have H6 := H2.ext hb6
      rw [HD.out] at hD
      obtain ⟨v, rfl, HO2⟩ := hD
      obtain ⟨p6, c6, rfl, R6, _, _⟩ := HO2.row
      clear HO2
      go_wp2_with fail
      refine (encode_any p6 L.length c6 _ _ hL R6).mono ?_
      rintro e w7 ⟨rfl, hb7⟩
      rw [HLE.out, HLS.out]
      have E7 := ext_trans E6 hb7
      have H7 := H6.ext hb7
      have R7 := R6.ext hb7
      go_wp2_with fail
      refine (rowRight_any p6 L.length c6 _ _ hL R7).mono ?_
      rintro e w8 ⟨rfl, hb8⟩
      rw [HLR.out]
      have E8 := ext_trans E7 hb8
      have H8 := H7.ext hb8
      go_wp2_with fail
      refine (rowRight_any p n cn x _ hn H8).mono ?_
      rintro e w9 ⟨rfl, hb9⟩
      rw [HR.out]
      go_wp2
      go_ret
      exact ⟨rfl, ext_trans E8 hb9⟩

/- FRAME -/

set_option maxRecDepth 100000 in
theorem rowBack_lifted (os : Os) (started : os.Started) (H : Type) (enc : TypeId × Value → H) :
    ReturnsInHanded {} Try.checked os 5 .any (Rows.rowBackSpec.pre6 enc Try.prog Try.f5 Rows.rowBackRow.domain false) (Rows.rowBackSpec.post enc Try.prog Try.f5 false true false false) := by
  refine returnsInHanded_of_change (C := Try.checked) Try.own started (by kernel_rfl) Try.func5
    (ChangeSpec.witness6 (enc := enc) (C := Try.checked) false ⟨#[], #[.slice none 0 0, .string ⟨#[]⟩], []⟩ 8 (by kernel_rfl) (by kernel_rfl) (by kernel_rfl) (by kernel_rfl)) ?_
  intro W base args ds gs before hval0 hW _ _
  have hval : ∀ (j : Nat) t v, Try.f5.params[j]? = some t → args[j]? = some v → Value.okWide Try.prog W .any base t v := hval0
  have hW' := hW
  obtain ⟨p, q, hA0, hV, rfl, _, _⟩ := hW
  have hA : DataW.TrodAll enc Try.prog W 0 (fun _ => true) true Try.f5.params.toList args.toList ds p := hA0
  rw [Try.params5] at hA hval
  obtain ⟨v0, v1, d0, d1, p0, p1, rfl, rfl, rfl, h0, h1⟩ := trodAll_two hA
  obtain ⟨a0, n0, c0, x0, ax0⟩ := (open_vals (hval 0 22 v0 rfl rfl) h0).arg
  obtain rfl := ax0.eq
  obtain ⟨s1, rfl, zs1⟩ := open_text (hval 1 9 v1 rfl rfl) h1
  clear hA0 hval0
  refine (back_walk a0 n0 c0 x0 s1 W ax0.le ax0.row ax0.fit zs1).mono fun e W' ⟨he, hb⟩ => ⟨_, he, post_law rfl hW' rfl rfl ?_ hb⟩
  intro t ht
  rw [Try.params5] at ht
  simp only [List.mem_cons, List.not_mem_nil, or_false] at ht
  rcases ht with rfl | rfl <;> exact ⟨by kernel_rfl, of_decide_eq_true (by kernel_rfl)⟩

theorem rowBack_holds : Rows.RowBackSaid :=
  OpenClaim.holds_of_wide 5 Try.f5 rfl rfl rfl rfl rfl rfl rfl ⟨rfl, rfl, rfl, rfl, rfl⟩ rfl rfl rfl rfl rfl (by kernel_rfl) Try.func5 (by kernel_rfl)
    (of_decide_eq_true (by kernel_rfl)) (by unfold Func.isWrapper; rw [if_neg (of_decide_eq_false (by kernel_rfl))]; exact ⟨rfl, rfl⟩)
    (fun os started H enc _ => rowBack_lifted os started H enc)

#print axioms rowBack_holds

end Go.Proofs.Ytmhcdmebienlpaa
