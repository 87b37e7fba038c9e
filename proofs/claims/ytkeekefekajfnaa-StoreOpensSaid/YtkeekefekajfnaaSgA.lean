/- The store's own names: a letter, a digit, a word of a query, a name. -/
import Derived.Test.YtkeekefekajfnaaStN
namespace Go.Proofs.Ytkeekefekajfnaa
open Go.RowKit

theorem letter_any (n : Int) (w : World) : Calls Try.prog 23 #[.int .u8 n] w fun e w' => e = .returned (.bool (decide (97 ≤ n ∧ n ≤ 122))) ∧ w' = w := by
  obtain ⟨b, hb⟩ : ∃ b, b = decide (97 ≤ n ∧ n ≤ 122) := ⟨_, rfl⟩
  rw [← hb]
  by_cases h1 : 97 ≤ n
  · by_cases h2 : n ≤ 122
    · obtain rfl : b = true := by rw [hb]; simp [h1, h2]
      clear hb
      go_enter Try.func23, Try.ntmps23
      go_wp2
      go_ret
      exact ⟨rfl, rfl⟩
    · obtain rfl : b = false := by rw [hb]; simp [h2]
      clear hb
      go_enter Try.func23, Try.ntmps23
      go_wp2
      go_ret
      exact ⟨rfl, rfl⟩
  · obtain rfl : b = false := by rw [hb]; simp [h1]
    clear hb
    go_enter Try.func23, Try.ntmps23
    go_wp2
    go_ret
    exact ⟨rfl, rfl⟩

theorem digit_any (n : Int) (w : World) : Calls Try.prog 24 #[.int .u8 n] w fun e w' => e = .returned (.bool (decide (48 ≤ n ∧ n ≤ 57))) ∧ w' = w := by
  obtain ⟨b, hb⟩ : ∃ b, b = decide (48 ≤ n ∧ n ≤ 57) := ⟨_, rfl⟩
  rw [← hb]
  by_cases h1 : 48 ≤ n
  · by_cases h2 : n ≤ 57
    · obtain rfl : b = true := by rw [hb]; simp [h1, h2]
      clear hb
      go_enter Try.func24, Try.ntmps24
      go_wp2
      go_ret
      exact ⟨rfl, rfl⟩
    · obtain rfl : b = false := by rw [hb]; simp [h2]
      clear hb
      go_enter Try.func24, Try.ntmps24
      go_wp2
      go_ret
      exact ⟨rfl, rfl⟩
  · obtain rfl : b = false := by rw [hb]; simp [h1]
    clear hb
    go_enter Try.func24, Try.ntmps24
    go_wp2
    go_ret
    exact ⟨rfl, rfl⟩

/-- A text is a word of a query. -/
def IsWord (s : ByteArray) : Prop := ∃ x ∈ wordsL, x.toList = s.toList

def wordsB : List (List UInt8) := [[115, 101, 108, 101, 99, 116], [100, 105, 115, 116, 105, 110, 99, 116], [102, 114, 111, 109], [106, 111, 105, 110], [108, 101, 102, 116], [115, 101, 109, 105], [111, 110], [119, 104, 101, 114, 101], [103, 114, 111, 117, 112], [98, 121], [117, 110, 105, 111, 110], [97, 108, 108], [111, 114, 100, 101, 114], [100, 101, 115, 99], [97, 110, 100], [111, 114], [110, 111, 116], [105, 115], [110, 117, 108, 108], [116, 114, 117, 101], [102, 97, 108, 115, 101], [99, 111, 117, 110, 116], [115, 117, 109], [109, 105, 110], [109, 97, 120]]
theorem words_bytes : wordsL.map (fun x => x.toList) = wordsB := by simp [wordsL, wordsB, ByteArray.toList_eq]
theorem is_word {s : ByteArray} {L : List UInt8} (h : (s.toList == L) = true) (hm : L ∈ wordsB) : IsWord s := by
  rw [← words_bytes] at hm
  obtain ⟨x, hx, rfl⟩ := List.mem_map.1 hm
  exact ⟨x, hx, (eq_of_beq h).symm⟩
theorem no_word {s : ByteArray} (h : ∀ L ∈ wordsB, (s.toList == L) = false) : ¬ IsWord s := fun ⟨x, hx, e⟩ => by
  have := h x.toList (by rw [← words_bytes]; exact List.mem_map.2 ⟨x, hx, rfl⟩)
  rw [e] at this
  simp at this
theorem fm_cons {s : ByteArray} {L : List UInt8} {l : List (List UInt8)} (h : (s.toList == L) = false) (k : ∀ x ∈ l, (s.toList == x) = false) : ∀ x ∈ L :: l, (s.toList == x) = false := List.forall_mem_cons.2 ⟨h, k⟩
theorem bool_both {b : Bool} (h : b = true) (k : b = false) : False := by rw [h] at k; cases k

set_option maxRecDepth 100000 in
set_option maxHeartbeats 4000000 in
theorem isWord_any (s : ByteArray) (w : World) : Calls Try.prog 25 #[.string s] w fun e w' => Tells (IsWord s) e ∧ w' = w := by
  go_enter Try.func25, Try.ntmps25
  go_wp2
  all_goals go_ret
  all_goals first
    | (exact (bool_both (by assumption) (by assumption)).elim)
    | (exact ⟨Tells.yes (is_word (by assumption) (by simp [wordsB])), rfl⟩)
    | (refine ⟨Tells.no (no_word ?_), rfl⟩; unfold wordsB; (repeat (refine fm_cons (by assumption) ?_)); exact fun _ h => absurd h List.not_mem_nil)

set_option maxRecDepth 100000 in
set_option maxHeartbeats 4000000 in
theorem sname_any (s : ByteArray) (w : World) (hs : s.size ≤ 9223372036854775807) : Calls Try.prog 9 #[.string s] w fun e w' => Tells (NameP s) e ∧ w' = w := by
  by_cases h1 : 1 ≤ s.size
  · have h0 : 0 < s.size := h1
    have en : (s.toList == []) = false := by
      rw [ByteArray.toList_eq]
      cases hl : s.data.toList with
      | nil => have := congrArg List.length hl; rw [Array.length_toList, List.length_nil] at this; have h3 : s.data.size = s.size := rfl; omega
      | cons a l => rfl
    by_cases h2 : s.size ≤ 20
    · have e0 := byt_at s 0 h0
      by_cases a1 : 97 ≤ byt s 0 ∧ byt s 0 ≤ 122
      · have A := Lib.hid a1
        have D := Lib.hid (decide_eq_true a1)
        clear a1
        go_enter Try.func9, Try.ntmps9
        go_wp2_with (first | (go_at_call 23; go_must (refine (letter_any (byt s 0) _).mono ?_; rintro e w1 ⟨rfl, rfl⟩; rw [D.out])))
        go_loopw [19] (fun vi wr => ∃ i : Nat, vi = .int .i64 i ∧ i ≤ s.size ∧ Hid (∀ j, j < i → okB (byt s j)) ∧ w1 = wr) (fun vi _ => s.size - (intOf vi).toNat)
        case atStart => exact ⟨0, rfl, Nat.zero_le _, fun j hj => absurd hj (Nat.not_lt_zero _), rfl⟩
        case round =>
          obtain ⟨i, rfl, hi, HJ, rfl⟩ := hrel
          clear e0
          by_cases hlt : i < s.size
          · have ei := byt_at s i hlt
            obtain ⟨b, hb⟩ : ∃ b, b = byt s i := ⟨_, rfl⟩
            rw [← hb] at ei
            have HB := Lib.hid hb
            clear hb
            have NX := Lib.hid (show okB b → Hid (∀ j, j < i + 1 → okB (byt s j)) from fun h j hj => by
              by_cases e : j = i
              · rw [e, ← HB.out]; exact h
              · exact HJ.out j (by omega))
            by_cases l1 : 97 ≤ b ∧ b ≤ 122
            · have L := Lib.hid (decide_eq_true l1)
              have hok := NX.out (.inl l1)
              clear l1
              go_wp2_with (first | (go_at_call 23; go_must (refine (letter_any b _).mono ?_; rintro e w1 ⟨rfl, rfl⟩; rw [L.out])))
              all_goals go_roundw
              all_goals first | exact ⟨i + 1, by go_num, hlt, hok, by trivial⟩ | (simp [intOf] <;> omega)
            · have L := Lib.hid (decide_eq_false l1)
              have N1 := Lib.hid l1
              clear l1
              by_cases l2 : 48 ≤ b ∧ b ≤ 57
              · have L2 := Lib.hid (decide_eq_true l2)
                have hok := NX.out (.inr (.inl l2))
                clear l2
                go_wp2_with (first | (go_at_call 23; go_must (refine (letter_any b _).mono ?_; rintro e w1 ⟨rfl, rfl⟩; rw [L.out])) | (go_at_call 24; go_must (refine (digit_any b _).mono ?_; rintro e w2 ⟨rfl, rfl⟩; rw [L2.out])))
                all_goals go_roundw
                all_goals first | exact ⟨i + 1, by go_num, hlt, hok, by trivial⟩ | (simp [intOf] <;> omega)
              · have L2 := Lib.hid (decide_eq_false l2)
                have N2 := Lib.hid l2
                clear l2
                by_cases e95 : b = 95
                · have hq : (b != 95) = false := by simpa using e95
                  have hok := NX.out (.inr (.inr e95))
                  clear e95
                  go_wp2_with (first | (go_at_call 23; go_must (refine (letter_any b _).mono ?_; rintro e w1 ⟨rfl, rfl⟩; rw [L.out])) | (go_at_call 24; go_must (refine (digit_any b _).mono ?_; rintro e w2 ⟨rfl, rfl⟩; rw [L2.out])))
                  all_goals go_roundw
                  all_goals first | exact ⟨i + 1, by go_num, hlt, hok, by trivial⟩ | (simp [intOf] <;> omega)
                · have hq : (b != 95) = true := by simpa using e95
                  have E95 := Lib.hid e95
                  clear e95
                  go_wp2_with (first | (go_at_call 23; go_must (refine (letter_any b _).mono ?_; rintro e w1 ⟨rfl, rfl⟩; rw [L.out])) | (go_at_call 24; go_must (refine (digit_any b _).mono ?_; rintro e w2 ⟨rfl, rfl⟩; rw [L2.out])))
                  go_ret
                  exact ⟨Tells.no (fun h => by
                    have hk := h.2.2.1 i hlt
                    rw [← HB.out] at hk
                    rcases hk with h | h | h
                    · exact N1.out h
                    · exact N2.out h
                    · exact E95.out h), by trivial⟩
          · have hik : i = s.size := by omega
            subst hik
            go_wp2_with fail
            refine (isWord_any s _).mono ?_
            rintro e w2 ⟨⟨b, rfl, hb⟩, rfl⟩
            cases b with
            | true =>
              have W := Lib.hid (hb.1 rfl)
              clear hb
              go_wp2
              go_ret
              exact ⟨Tells.no (fun h => by obtain ⟨x, hx, e⟩ := W.out; exact h.2.2.2 x hx e), by trivial⟩
            | false =>
              have W := Lib.hid (show ¬ IsWord s from fun h => by cases hb.2 h)
              clear hb
              go_wp2
              go_ret
              exact ⟨Tells.yes ⟨⟨h1, h2⟩, A.out, HJ.out, fun x hx e => W.out ⟨x, hx, e⟩⟩, by trivial⟩
      · have A := Lib.hid a1
        have D := Lib.hid (decide_eq_false a1)
        clear a1
        go_enter Try.func9, Try.ntmps9
        go_wp2_with (first | (go_at_call 23; go_must (refine (letter_any (byt s 0) _).mono ?_; rintro e w1 ⟨rfl, rfl⟩; rw [D.out])))
        go_ret
        exact ⟨Tells.no (fun h => A.out h.2.1), by trivial⟩
    · go_enter Try.func9, Try.ntmps9
      go_wp2
      go_ret
      exact ⟨Tells.no (fun h => h2 h.1.2), by trivial⟩
  · have en : (s.toList == []) = true := by
      have h3 : s.data.size = 0 := by have : s.data.size = s.size := rfl; omega
      rw [ByteArray.toList_eq, Array.eq_empty_of_size_eq_zero h3]
      rfl
    go_enter Try.func9, Try.ntmps9
    go_wp2
    go_ret
    exact ⟨Tells.no (fun h => h1 h.1.1), by trivial⟩

end Go.Proofs.Ytkeekefekajfnaa
