/- A row is written as its parts, one behind the other; it goes ahead of a longer one that begins with it: whatever the rows, where both together are of bulk at most 1048576. -/
import Derived.Test.YtmhcdmebienlpaaEx2
import Derived.Test.YtmhcdmebienlpaaArgs
import Derived.Test.YtmhcdmebienlpaaRefDec
import Derived.Test.YtmhcdmebienlpaaAppRow
namespace Go.Proofs.Ytmhcdmebienlpaa
open Go.ChangeShapes Go.WideShapes Go.ChangeAt Go.RowKit Go.Joins

/-- One row behind the other. -/
def both (n m : Nat) (x y : Nat → Val) : List Val := (List.range n).map x ++ (List.range m).map y
theorem both_len (n m : Nat) (x y : Nat → Val) : (both n m x y).length = n + m := by simp [both]
theorem both_at (n m : Nat) (x y : Nat → Val) (i : Nat) : rowOf (both n m x y) i = if i < n then x i else if i < n + m then y (i - n) else nul := by
  unfold rowOf both
  by_cases h : i < n
  · rw [if_pos h, List.getElem?_append_left (by simpa using h)]
    simp [h]
  · rw [if_neg h, List.getElem?_append_right (by simp; omega)]
    by_cases h2 : i < n + m
    · rw [if_pos h2]
      simp [show i - n < m by omega]
    · rw [if_neg h2]
      simp [show ¬ i - n < m by omega]

theorem both_right (n m : Nat) (x y : Nat → Val) : allRight (n + m) (rowOf (both n m x y)) = (allRight n x && allRight m y) := by
  rw [Bool.eq_iff_iff, Bool.and_eq_true, allRight_iff, allRight_iff, allRight_iff]
  constructor
  · intro h
    refine ⟨fun i hi => ?_, fun i hi => ?_⟩
    · have := h i (by omega); rwa [both_at, if_pos hi] at this
    · have := h (n + i) (by omega); rwa [both_at, if_neg (by omega), if_pos (by omega), show n + i - n = i by omega] at this
  · rintro ⟨h1, h2⟩ i hi
    rw [both_at]
    by_cases h : i < n
    · rw [if_pos h]; exact h1 i h
    · rw [if_neg h, if_pos hi]; exact h2 _ (by omega)

theorem both_enc (n m : Nat) (x y : Nat → Val) : encRow (rowOf (both n m x y)) (n + m) = encRow x n ++ encRow y m := by
  have h := encL_range (rowOf (both n m x y)) (n + m)
  have e : (List.range (n + m)).map (rowOf (both n m x y)) = both n m x y := by
    have := range_list (both n m x y)
    rwa [both_len] at this
  rw [e, both, encL_append, encL_range, encL_range] at h
  exact h.symm

theorem both_bad {n m : Nat} {x y : Nat → Val} (h : encE n x ≠ 0 ∨ encE m y ≠ 0) : encE (n + m) (rowOf (both n m x y)) ≠ 0 := by
  intro h0
  obtain ⟨h1, h2⟩ := encE_zero.1 h0
  rw [both_right, Bool.and_eq_true] at h2
  rcases h with h | h
  · exact h (encE_zero.2 ⟨by omega, h2.1⟩)
  · exact h (encE_zero.2 ⟨by omega, h2.2⟩)
theorem both_long {n m : Nat} {z : Nat → Val} (h : 100 < n + m) : encE (n + m) z = 5 := by unfold encE; rw [if_pos h]
theorem both_good {n m : Nat} {x y : Nat → Val} (hx : encE n x = 0) (hy : encE m y = 0) (h : n + m ≤ 100) : encE (n + m) (rowOf (both n m x y)) = 0 ∧ encS (n + m) (rowOf (both n m x y)) = encS n x ++ encS m y := by
  have h0 : encE (n + m) (rowOf (both n m x y)) = 0 := encE_zero.2 ⟨h, by rw [both_right, (encE_zero.1 hx).2, (encE_zero.1 hy).2]; rfl⟩
  refine ⟨h0, ?_⟩
  rw [encS_of h0, encS_of hx, encS_of hy, both_enc]
  apply ByteArray.ext
  simp [ByteArray.data_append]

theorem cmpFrom_head {n l : Nat} {x z : Nat → Val} (hl : n ≤ l) (h : ∀ i, i < n → x i = z i) : ∀ f k, f + k = n → cmpFrom n l x z f k = if n < l then -1 else 0 := by
  intro f
  induction f with
  | zero =>
    intro k _
    rw [cmpFrom]
    split
    · rfl
    · rw [if_neg (by omega)]
  | succ f ih =>
    intro k hk
    rw [cmpFrom, h k (by omega), cmp_self, if_neg (by simp), ih (k + 1) (by omega)]
theorem cmp_head (n m : Nat) (x y : Nat → Val) : cmpRow n (n + m) x (rowOf (both n m x y)) = if 0 < m then -1 else 0 := by
  have hm : min n (n + m) = n := by omega
  rw [cmpRow, hm, cmpFrom_head (by omega) (fun i hi => by rw [both_at, if_pos hi]) n 0 (by omega)]
  by_cases h : 0 < m
  · rw [if_pos (by omega), if_pos h]
  · rw [if_neg (by omega), if_neg h]

set_option maxRecDepth 100000 in
set_option maxHeartbeats 4000000 in
theorem two_walk (p q : Option Addr) (n cn m cm : Nat) (x y : Nat → Val) (w : World) (hn : n ≤ 1048576) (hm : m ≤ 1048576) (hX : RowP w p n x) (hY : RowP w q m y) :
    Calls Try.prog 7 #[.slice p n cn, .slice q m cm] w fun e w' => e = .returned (.bool true) ∧ Below w.heap.size w w' := by
  go_enter Try.func7, Try.ntmps7
  go_wp2_with fail
  refine (ex2_any _).mono ?_
  rintro e w1 ⟨rfl, hb1⟩
  have X1 := hX.ext hb1
  have Y1 := hY.ext hb1
  go_wp2_with fail
  refine (encode_any p n cn x _ (by omega) X1).mono ?_
  rintro e w2 ⟨rfl, hb2⟩
  have E2 := ext_trans hb1 hb2
  have X2 := X1.ext hb2
  have Y2 := Y1.ext hb2
  go_wp2_with fail
  refine (encode_any q m cm y _ (by omega) Y2).mono ?_
  rintro e w3 ⟨rfl, hb3⟩
  have E3 := ext_trans E2 hb3
  have X3 := X2.ext hb3
  have Y3 := Y2.ext hb3
  clear X1 X2 Y1 Y2
  go_wp2_with (at_builtin; refine wp_append_row rfl _ _ rfl w3.heap.size _ [] rfl (OwnV.nil _ _) p n cn x rfl X3 ?k1 ?k2 ?_)
  try (case k1 => (simp; omega))
  try (case k2 => (omega))
  intro v4 w4 HO4 hg4 hb4
  have X4 := X3.ext hb4
  have Y4 := Y3.ext hb4
  have E4 := ext_trans E3 hb4
  have s4 := hb4.size
  try rw [List.nil_append] at HO4
  obtain ⟨p4, c4, rfl, _, _, _⟩ := HO4.row
  go_wp2_with (at_builtin; refine wp_append_row rfl _ _ rfl w3.heap.size _ ((List.range n).map x) rfl HO4 q m cm y rfl Y4 ?m1 ?m2 ?_)
  try (case m1 => (simp; omega))
  try (case m2 => (omega))
  intro v5 w5 HO5 hg5 hb5
  have hb35 : Below w3.heap.size w3 w5 := hb4.trans hb5
  have X5 := X3.ext hb35
  have E5 := ext_trans E3 hb35
  have HO6 : OwnV w5 w3.heap.size v5 (both n m x y) := HO5
  clear HO4 HO5 X3 X4 Y3 Y4 hg4 hg5 hb4 hb5
  obtain ⟨p5, c5, rfl, R5, _, _⟩ := HO6.row
  rw [both_len] at R5 ⊢
  clear HO6
  have hnm : n + m ≤ 9223372036854775807 := by omega
  go_wp2_with fail
  refine (encode_any p5 (n + m) c5 (rowOf (both n m x y)) _ hnm R5).mono ?_
  rintro e w6 ⟨rfl, hb6⟩
  have E6 := ext_trans E5 hb6
  have X6 := X5.ext hb6
  have R6 := R5.ext hb6
  clear X5 R5
  by_cases hx : encE n x = 0
  · by_cases hy : encE m y = 0
    · by_cases h100 : n + m ≤ 100
      · obtain ⟨g0, gS⟩ := both_good hx hy h100
        have hc := cmp_head n m x y
        have h1 : ¬ (100 : Int) < ((n + m : Nat) : Int) := by omega
        rw [g0, gS]
        have z1 : (encS n x).size ≤ 42000 := by
          have h := (encRow_length x n (encE_zero.1 hx).2).2
          rw [encS_of hx]
          show (encRow x n).toArray.size ≤ _
          simp
          omega
        have z2 : (encS m y).size ≤ 42000 := by
          have h := (encRow_length y m (encE_zero.1 hy).2).2
          rw [encS_of hy]
          show (encRow y m).toArray.size ≤ _
          simp
          omega
        go_wp2_with fail
        refine (rowCompare_any p p5 n cn (n + m) c5 x (rowOf (both n m x y)) _ (by omega) hnm X6 R6).mono ?_
        rintro e w7 ⟨rfl, hb7⟩
        rw [hc]
        clear hc
        by_cases hm0 : 0 < m
        · rw [if_pos hm0]
          go_wp2
          go_ret
          exact ⟨rfl, ext_trans E6 hb7⟩
        · rw [if_neg hm0]
          go_wp2
          go_ret
          exact ⟨rfl, ext_trans E6 hb7⟩
      · have g0 := both_long (n := n) (m := m) (z := rowOf (both n m x y)) (by omega)
        have h1 : (100 : Int) < ((n + m : Nat) : Int) := by omega
        rw [g0]
        go_wp2
        go_ret
        exact ⟨rfl, E6⟩
    · have b0 : (encE (n + m) (rowOf (both n m x y)) != 0) = true := by simpa using both_bad (x := x) (y := y) (.inr hy)
      have b1 : (encE n x != 0) = false := by simpa using hx
      have b2 : (encE m y != 0) = true := by simpa using hy
      go_wp2
      go_ret
      exact ⟨rfl, E6⟩
  · have b0 : (encE (n + m) (rowOf (both n m x y)) != 0) = true := by simpa using both_bad (x := x) (y := y) (.inl hx)
    have b1 : (encE n x != 0) = true := by simpa using hx
    go_wp2
    go_ret
    exact ⟨rfl, E6⟩

/- FRAME -/

set_option maxRecDepth 100000 in
theorem rowTwo_lifted (os : Os) (started : os.Started) (H : Type) (enc : TypeId × Value → H) (F : Stop.Interp) :
    ReturnsInHanded {} Try.checked os 7 .any ((Rows.OpenSpec.upto Rows.rowTwoSpec).pre6 enc Try.prog Try.f7 Rows.rowTwoUptoRow.domain false) (((Rows.OpenSpec.upto Rows.rowTwoSpec).at F).post enc Try.prog Try.f7 false true false false) := by
  refine returnsInHanded_of_cond (C := Try.checked) (s := Rows.OpenSpec.upto Rows.rowTwoSpec) (k := Rows.uptoSmall) rfl Try.own started (by kernel_rfl) Try.func7
    (OpenSpec.witness (enc := enc) (C := Try.checked) (s := Rows.OpenSpec.upto Rows.rowTwoSpec) (k := Rows.uptoSmall) rfl false ⟨#[], #[.slice none 0 0, .slice none 0 0], []⟩ 8 (by kernel_rfl) (by kernel_rfl) (by kernel_rfl)
      (x := ([.nil, .nil], [], [])) (by kernel_rfl) rfl (by kernel_rfl)) ?_
  intro W base args ds gs before hval0 hW _ hk _
  have hval : ∀ (j : Nat) t v, Try.f7.params[j]? = some t → args[j]? = some v → Value.okWide Try.prog W .any base t v := hval0
  have hW' := hW
  obtain ⟨p, q, hA0, hV, rfl, _, _⟩ := hW
  obtain ⟨rfl, rfl⟩ := trodVars_none hV
  have hA : DataW.TrodAll enc Try.prog W 0 (fun _ => true) true Try.f7.params.toList args.toList ds p := hA0
  rw [Try.params7] at hA hval
  obtain ⟨v0, v1, d0, d1, p0, p1, rfl, rfl, rfl, h0, h1⟩ := trodAll_two hA
  have hB : Rows.uptoBulkAll [d0, d1] ≤ 1048576 := of_decide_eq_true hk
  simp only [Rows.uptoBulkAll] at hB
  obtain ⟨a0, n0, c0, x0, ax0, bx0⟩ := open_row2 (hval 0 22 v0 rfl rfl) h0
  obtain rfl := ax0.eq
  obtain ⟨a1, n1, c1, x1, ax1, bx1⟩ := open_row2 (hval 1 22 v1 rfl rfl) h1
  obtain rfl := ax1.eq
  clear hA0 hval0
  refine (two_walk a0 a1 n0 c0 n1 c1 x0 x1 W (by omega) (by omega) ax0.row ax1.row).mono fun e W' ⟨he, hb⟩ => ⟨_, he, post_law rfl hW' rfl rfl ?_ hb⟩
  intro t ht
  rw [Try.params7] at ht
  simp only [List.mem_cons, List.not_mem_nil, or_false] at ht
  rcases ht with rfl | rfl <;> exact ⟨by kernel_rfl, of_decide_eq_true (by kernel_rfl)⟩

theorem rowTwo_holds : Rows.RowTwoUptoSaid :=
  OpenClaim.holds_of_cond 7 Try.f7 rfl rfl rfl rfl rfl rfl rfl ⟨rfl, rfl, rfl, rfl, rfl⟩ rfl rfl rfl rfl rfl (by kernel_rfl) Try.func7 (by kernel_rfl)
    (of_decide_eq_true (by kernel_rfl)) (by unfold Func.isWrapper; rw [if_neg (of_decide_eq_false (by kernel_rfl))]; exact ⟨rfl, rfl⟩)
    (fun os started H enc _ F => rowTwo_lifted os started H enc F)

#print axioms rowTwo_holds

end Go.Proofs.Ytmhcdmebienlpaa
