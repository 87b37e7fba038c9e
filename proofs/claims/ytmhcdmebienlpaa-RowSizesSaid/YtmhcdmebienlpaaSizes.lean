/- A row is written in a byte a value, and eight more an Int, one more a Bool, one more a Text, and its bytes: whatever the row. Conditions: none. -/
import Derived.Test.YtmhcdmebienlpaaEx2
import Derived.Test.YtmhcdmebienlpaaArgs
namespace Go.Proofs.Ytmhcdmebienlpaa
open Go.ChangeShapes Go.WideShapes Go.ChangeAt Go.RowKit Go.Joins

theorem encS_size (len : Nat) (x : Nat → Val) (h1 : ¬ 100 < len) (h2 : allRight len x = true) : (encS len x).size = (encRow x len).length := by
  unfold encS
  rw [if_neg h1, h2, if_pos rfl]
  rfl
theorem encB_len (x : Val) : (encB x).length = (encI x).length := by unfold encB; rw [List.length_map]

/-- How many bytes a right value takes, by its kind. -/
theorem len_kind (x : Val) (hr : x.right = true) : (x.k = 0 ∧ (encB x).length = 1) ∨ (x.k = 1 ∧ (encB x).length = 9) ∨ (x.k = 2 ∧ (encB x).length = 2) ∨ (x.k = 3 ∧ (encB x).length = 2 + x.s.size ∧ x.s.size ≤ 40) := by
  rw [encB_len]
  obtain ⟨k, n, s⟩ := x
  unfold Val.right at hr
  dsimp only at hr ⊢
  by_cases k0 : k = 0
  · subst k0; exact .inl ⟨rfl, rfl⟩
  by_cases k1 : k = 1
  · subst k1; exact .inr (.inl ⟨rfl, rfl⟩)
  by_cases k2 : k = 2
  · subst k2; exact .inr (.inr (.inl ⟨rfl, rfl⟩))
  by_cases k3 : k = 3
  · subst k3
    simp at hr
    refine .inr (.inr (.inr ⟨rfl, ?_, hr.2⟩))
    rw [show encI ⟨3, n, s⟩ = 3 :: (s.size : Int) :: toI s.data.toList from rfl]
    simp [toI_length]
    have : s.data.size = s.size := rfl
    omega
  · simp [k0, k1, k2, k3] at hr

set_option maxHeartbeats 4000000 in
theorem sizes_walk (p : Option Addr) (len cap : Nat) (x : Nat → Val) (w : World) (hl : len ≤ 9223372036854775807) (hR : RowP w p len x) :
    Calls Try.prog 9 #[.slice p len cap] w fun e w' => e = .returned (.bool true) ∧ Below w.heap.size w w' := by
  by_cases h100 : 100 < len
  · have hE : encE len x = 5 := by unfold encE; rw [if_pos h100]
    have hS : encS len x = ⟨#[]⟩ := by unfold encS; rw [if_pos h100]
    go_enter Try.func9, Try.ntmps9
    go_wp2_with (first | (go_at_call 10; go_must (refine (ex2_any _).mono ?_; rintro e w1 ⟨rfl, hb1⟩)) | (go_at_call 11; go_must (refine (encode_any p len cap x _ hl (hR.ext hb1)).mono ?_; rintro e w2 ⟨rfl, hb2⟩; rw [hE, hS])))
    go_ret
    exact ⟨rfl, ext_trans hb1 hb2⟩
  cases hr : allRight len x
  · have hE : encE len x = 1 := by unfold encE; rw [if_neg h100, hr]; rfl
    have hS : encS len x = ⟨#[]⟩ := by unfold encS; rw [if_neg h100, hr]; rfl
    go_enter Try.func9, Try.ntmps9
    go_wp2_with (first | (go_at_call 10; go_must (refine (ex2_any _).mono ?_; rintro e w1 ⟨rfl, hb1⟩)) | (go_at_call 11; go_must (refine (encode_any p len cap x _ hl (hR.ext hb1)).mono ?_; rintro e w2 ⟨rfl, hb2⟩; rw [hE, hS])))
    go_ret
    exact ⟨rfl, ext_trans hb1 hb2⟩
  have hE : encE len x = 0 := by unfold encE; rw [if_neg h100, hr]; rfl
  have hz := encS_size len x h100 hr
  have hbig := (encRow_length x len hr).2
  generalize hS : encS len x = s at hz
  go_enter Try.func9, Try.ntmps9
  go_wp2_with (first | (go_at_call 10; go_must (refine (ex2_any _).mono ?_; rintro e w1 ⟨rfl, hb1⟩)) | (go_at_call 11; go_must (refine (encode_any p len cap x _ hl (hR.ext hb1)).mono ?_; rintro e w2 ⟨rfl, hb2⟩; rw [hE, hS])))
  have hR2 := (hR.ext hb1).ext hb2
  go_loopw [6, 7] (fun m i wr => ∃ k : Nat, k ≤ len ∧ i = .int .i64 k ∧ m = .int .i64 ((encRow x k).length : Nat) ∧ wr = w2) (fun _ i _ => len - (intOf i).toNat)
  case atStart => exact ⟨0, Nat.zero_le _, rfl, rfl, rfl⟩
  case round =>
    obtain ⟨k, hk, rfl, rfl, rfl⟩ := hrel
    by_cases hlt : k < len
    · obtain ⟨b, off, rfl, S⟩ := hR2.one hlt
      have q0 := S.c0 k hlt
      have q2 := S.c2 k hlt
      have hbk := (encRow_length x k (allRight_le hr hk)).2
      have hrk := allRight_one hr hlt
      clear hS hE
      rcases len_kind (x k) hrk with ⟨hk0, hl0⟩ | ⟨hk0, hl0⟩ | ⟨hk0, hl0⟩ | ⟨hk0, hl0, hs0⟩
      · rw [hk0] at q0
        go_wp2
        go_roundw
        case rel => exact ⟨k + 1, by omega, by go_num, by rw [encRow, List.length_append]; exact congrArg (Value.int .i64) (by omega), trivial⟩
        case measure => simp [intOf]; omega
      · rw [hk0] at q0
        go_wp2
        go_roundw
        case rel => exact ⟨k + 1, by omega, by go_num, by rw [encRow, List.length_append]; exact congrArg (Value.int .i64) (by omega), trivial⟩
        case measure => simp [intOf]; omega
      · rw [hk0] at q0
        go_wp2
        go_roundw
        case rel => exact ⟨k + 1, by omega, by go_num, by rw [encRow, List.length_append]; exact congrArg (Value.int .i64) (by omega), trivial⟩
        case measure => simp [intOf]; omega
      · rw [hk0] at q0
        go_wp2
        go_roundw
        case rel => exact ⟨k + 1, by omega, by go_num, by rw [encRow, List.length_append]; exact congrArg (Value.int .i64) (by omega), trivial⟩
        case measure => simp [intOf]; omega
    · have hkl : k = len := by omega
      subst hkl
      go_wp2
      go_ret
      refine ⟨?_, ext_trans hb1 hb2⟩
      simp

/- FRAME -/

set_option maxRecDepth 100000 in
theorem rowSizes_lifted (os : Os) (started : os.Started) (H : Type) (enc : TypeId × Value → H) :
    ReturnsInHanded {} Try.checked os 9 .any (Rows.rowSizesSpec.pre6 enc Try.prog Try.f9 Rows.rowSizesRow.domain false) (Rows.rowSizesSpec.post enc Try.prog Try.f9 false true false false) := by
  refine returnsInHanded_of_change (C := Try.checked) Try.own started (by kernel_rfl) Try.func9
    (ChangeSpec.witness6 (enc := enc) (C := Try.checked) false ⟨#[], #[.slice none 0 0], []⟩ 8 (by kernel_rfl) (by kernel_rfl) (by kernel_rfl) (by kernel_rfl)) ?_
  intro W base args ds gs before hval0 hW _ _
  have hval : ∀ (j : Nat) t v, Try.f9.params[j]? = some t → args[j]? = some v → Value.okWide Try.prog W .any base t v := hval0
  have hW' := hW
  obtain ⟨p, q, hA0, hV, rfl, _, _⟩ := hW
  have hA : DataW.TrodAll enc Try.prog W 0 (fun _ => true) true Try.f9.params.toList args.toList ds p := hA0
  rw [Try.params9] at hA hval
  obtain ⟨v0, d0, rfl, rfl, h0⟩ := trodAll_one hA
  obtain ⟨a0, n0, c0, x0, ax0⟩ := (open_vals (hval 0 22 v0 rfl rfl) h0).arg
  obtain rfl := ax0.eq
  clear hA0 hval0
  refine (sizes_walk a0 n0 c0 x0 W ax0.le ax0.row).mono fun e W' ⟨he, hb⟩ => ⟨_, he, post_law rfl hW' rfl rfl ?_ hb⟩
  intro t ht
  rw [Try.params9] at ht
  simp only [List.mem_cons, List.not_mem_nil, or_false] at ht
  subst ht <;> exact ⟨by kernel_rfl, of_decide_eq_true (by kernel_rfl)⟩

theorem rowSizes_holds : Rows.RowSizesSaid :=
  OpenClaim.holds_of_wide 9 Try.f9 rfl rfl rfl rfl rfl rfl rfl ⟨rfl, rfl, rfl, rfl, rfl⟩ rfl rfl rfl rfl rfl (by kernel_rfl) Try.func9 (by kernel_rfl)
    (of_decide_eq_true (by kernel_rfl)) (by unfold Func.isWrapper; rw [if_neg (of_decide_eq_false (by kernel_rfl))]; exact ⟨rfl, rfl⟩)
    (fun os started H enc _ => rowSizes_lifted os started H enc)

#print axioms rowSizes_holds

end Go.Proofs.Ytmhcdmebienlpaa
