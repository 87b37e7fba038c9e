/- The classes of bytes; how far a class goes from the beginning of a text. -/
import Derived.Test.YtgmmbfcjjgehoaaGreatDoorLxN
import Derived.Test.YtgmmbfcjjgehoaaGreatDoorWord
import Derived.Test.YtgmmbfcjjgehoaaGreatDoorGv
import Derived.Test.YtgmmbfcjjgehoaaGreatDoorLxD
namespace Go.Proofs.YtgmmbfcjjgehoaaGreatDoor
open Go.RowKit
set_option maxRecDepth 100000

theorem blank_num (b : UInt8) : isBlank b = decide (b.toNat = 32 ∨ b.toNat = 9 ∨ b.toNat = 10 ∨ b.toNat = 13) := all_bytes (P := fun b => isBlank b = decide (b.toNat = 32 ∨ b.toNat = 9 ∨ b.toNat = 10 ∨ b.toNat = 13)) (by decide) b
theorem lblank_any (b : UInt8) (x : Int) (hx : x = (b.toNat : Int)) (w : World) : Calls Tryz.prog 45 #[.int .u8 x] w fun e w' => e = .returned (.bool (isBlank b)) ∧ w' = w := by
  have hb := blank_num b
  obtain ⟨t, ht⟩ : ∃ t, t = isBlank b := ⟨_, rfl⟩
  rw [← ht] at hb ⊢
  clear ht
  by_cases h1 : x = 32
  · obtain rfl : t = true := by rw [hb]; simp; omega
    have m1 : (x == 32) = true := by rw [beq_iff_eq]; exact h1
    clear hb hx h1
    go_enter Tryz.func45, Tryz.ntmps45
    go_wp2
    go_ret
    exact ⟨rfl, rfl⟩
  · have m1 : (x == 32) = false := by rw [beq_eq_false_iff_ne]; exact h1
    by_cases h2 : x = 9
    · obtain rfl : t = true := by rw [hb]; simp; omega
      have m2 : (x == 9) = true := by rw [beq_iff_eq]; exact h2
      clear hb hx h1 h2
      go_enter Tryz.func45, Tryz.ntmps45
      go_wp2
      go_ret
      exact ⟨rfl, rfl⟩
    · have m2 : (x == 9) = false := by rw [beq_eq_false_iff_ne]; exact h2
      by_cases h3 : x = 10
      · obtain rfl : t = true := by rw [hb]; simp; omega
        have m3 : (x == 10) = true := by rw [beq_iff_eq]; exact h3
        clear hb hx h1 h2 h3
        go_enter Tryz.func45, Tryz.ntmps45
        go_wp2
        go_ret
        exact ⟨rfl, rfl⟩
      · have m3 : (x == 10) = false := by rw [beq_eq_false_iff_ne]; exact h3
        by_cases h4 : x = 13
        · obtain rfl : t = true := by rw [hb]; simp; omega
          have m4 : (x == 13) = true := by rw [beq_iff_eq]; exact h4
          clear hb hx h1 h2 h3 h4
          go_enter Tryz.func45, Tryz.ntmps45
          go_wp2
          go_ret
          exact ⟨rfl, rfl⟩
        · have m4 : (x == 13) = false := by rw [beq_eq_false_iff_ne]; exact h4
          obtain rfl : t = false := by rw [hb]; simp; omega
          clear hb hx h1 h2 h3 h4
          go_enter Tryz.func45, Tryz.ntmps45
          go_wp2
          go_ret
          exact ⟨rfl, rfl⟩
theorem lletter_any (b : UInt8) (x : Int) (hx : x = (b.toNat : Int)) (w : World) : Calls Tryz.prog 46 #[.int .u8 x] w fun e w' => e = .returned (.bool (isLetter b)) ∧ w' = w := by
  have hb := letter_num b
  have h256 := b.toNat_lt
  obtain ⟨t, ht⟩ : ∃ t, t = isLetter b := ⟨_, rfl⟩
  rw [← ht] at hb ⊢
  clear ht
  by_cases h1 : x ≥ 97
  · by_cases h2 : x ≤ 122
    · obtain rfl : t = true := by rw [hb]; simp; omega
      clear hb hx
      go_enter Tryz.func46, Tryz.ntmps46
      go_wp2
      go_ret
      exact ⟨rfl, rfl⟩
    · obtain rfl : t = false := by rw [hb]; simp; omega
      have h3 : x ≥ 65 := by omega
      have h4 : ¬ x ≤ 90 := by omega
      clear hb hx
      go_enter Tryz.func46, Tryz.ntmps46
      go_wp2
      go_ret
      exact ⟨rfl, rfl⟩
  · by_cases h3 : x ≥ 65
    · by_cases h4 : x ≤ 90
      · obtain rfl : t = true := by rw [hb]; simp; omega
        clear hb hx
        go_enter Tryz.func46, Tryz.ntmps46
        go_wp2
        go_ret
        exact ⟨rfl, rfl⟩
      · obtain rfl : t = false := by rw [hb]; simp; omega
        clear hb hx
        go_enter Tryz.func46, Tryz.ntmps46
        go_wp2
        go_ret
        exact ⟨rfl, rfl⟩
    · obtain rfl : t = false := by rw [hb]; simp; omega
      clear hb hx
      go_enter Tryz.func46, Tryz.ntmps46
      go_wp2
      go_ret
      exact ⟨rfl, rfl⟩
theorem ldigit_any (b : UInt8) (x : Int) (hx : x = (b.toNat : Int)) (w : World) : Calls Tryz.prog 48 #[.int .u8 x] w fun e w' => e = .returned (.bool (isDigit b)) ∧ w' = w := by
  have hb := digit_num b
  obtain ⟨t, ht⟩ : ∃ t, t = isDigit b := ⟨_, rfl⟩
  rw [← ht] at hb ⊢
  clear ht
  by_cases h1 : x ≥ 48
  · by_cases h2 : x ≤ 57
    · obtain rfl : t = true := by rw [hb]; simp; omega
      clear hb hx
      go_enter Tryz.func48, Tryz.ntmps48
      go_wp2
      go_ret
      exact ⟨rfl, rfl⟩
    · obtain rfl : t = false := by rw [hb]; simp; omega
      clear hb hx
      go_enter Tryz.func48, Tryz.ntmps48
      go_wp2
      go_ret
      exact ⟨rfl, rfl⟩
  · obtain rfl : t = false := by rw [hb]; simp; omega
    clear hb hx
    go_enter Tryz.func48, Tryz.ntmps48
    go_wp2
    go_ret
    exact ⟨rfl, rfl⟩
theorem part_num (b : UInt8) (h1 : isLetter b = false) (h2 : isDigit b = false) : isWordB b = decide (b.toNat = 95) := by
  have h := all_bytes (P := fun b => (b == 95) = decide (b.toNat = 95)) (by decide) b
  unfold isWordB
  rw [h1, h2, Bool.or_false, Bool.false_or]
  exact h
theorem lpart_any (b : UInt8) (x : Int) (hx : x = (b.toNat : Int)) (w : World) : Calls Tryz.prog 70 #[.int .u8 x] w fun e w' => e = .returned (.bool (isWordB b)) ∧ w' = w := by
  have c1 := lletter_any b x hx
  have c2 := ldigit_any b x hx
  cases h1 : isLetter b with
  | true =>
    rw [h1] at c1
    have e : isWordB b = true := letter_word h1
    rw [e]
    clear hx h1 e c2
    go_enter Tryz.func70, Tryz.ntmps70
    go_wp2_with (go_at_call 46; refine (c1 _).mono ?_; rintro e w1 ⟨rfl, rfl⟩)
    go_ret
    exact ⟨rfl, rfl⟩
  | false =>
    rw [h1] at c1
    cases h2 : isDigit b with
    | true =>
      rw [h2] at c2
      have e : isWordB b = true := by unfold isWordB; rw [h1, h2]; rfl
      rw [e]
      clear hx h1 h2 e
      go_enter Tryz.func70, Tryz.ntmps70
      go_wp2_with (first | (go_at_call 46; refine (c1 _).mono ?_; rintro e w1 ⟨rfl, rfl⟩) | (go_at_call 48; refine (c2 _).mono ?_; rintro e w1 ⟨rfl, rfl⟩))
      go_ret
      exact ⟨rfl, rfl⟩
    | false =>
      rw [h2] at c2
      rw [part_num b h1 h2]
      clear h1 h2
      obtain ⟨t, ht⟩ : ∃ t, t = decide (b.toNat = 95) := ⟨_, rfl⟩
      rw [← ht]
      have m : (x == 95) = t := by rw [ht, hx, Bool.eq_iff_iff, beq_iff_eq, decide_eq_true_iff]; omega
      clear hx ht
      cases t
      · go_enter Tryz.func70, Tryz.ntmps70
        go_wp2_with (first | (go_at_call 46; refine (c1 _).mono ?_; rintro e w1 ⟨rfl, rfl⟩) | (go_at_call 48; refine (c2 _).mono ?_; rintro e w1 ⟨rfl, rfl⟩))
        go_ret
        exact ⟨rfl, rfl⟩
      · go_enter Tryz.func70, Tryz.ntmps70
        go_wp2_with (first | (go_at_call 46; refine (c1 _).mono ?_; rintro e w1 ⟨rfl, rfl⟩) | (go_at_call 48; refine (c2 _).mono ?_; rintro e w1 ⟨rfl, rfl⟩))
        go_ret
        exact ⟨rfl, rfl⟩

set_option maxHeartbeats 1000000 in
theorem span_blank (s : ByteArray) (w : World) (hs : s.size ≤ 2000) :
    Calls Tryz.prog 44 #[.string s, .func (.func 45) #[] #[]] w fun e w' => e = .returned (.int .i64 ((s.data.toList.takeWhile isBlank).length : Int)) ∧ w' = w := by
  have hsl : s.data.toList.length = s.size := Array.length_toList
  obtain ⟨d, hd⟩ : ∃ d, d = s.data.toList.takeWhile isBlank := ⟨_, rfl⟩
  rw [← hd]
  have hdl : d.length ≤ s.size := by
    have := takeWhile_le isBlank s.data.toList
    rw [← hd, hsl] at this
    exact this
  go_enter Tryz.func44, Tryz.ntmps44
  go_wp2_with fail
  go_loopw [5] (fun va wr => ∃ j : Nat, va = .int .i64 j ∧ j ≤ d.length ∧ wr = w) (fun va _ => s.size - (intOf va).toNat)
  case atStart => exact ⟨0, rfl, Nat.zero_le _, rfl⟩
  case round =>
    obtain ⟨j, rfl, hj, rfl⟩ := hrel
    by_cases hlt : j < s.size
    · obtain ⟨b, hb⟩ : ∃ b, s.data.toList[j]? = some b := ⟨_, List.getElem?_eq_getElem (by rw [hsl]; exact hlt)⟩
      obtain ⟨p4, p5⟩ := byt_data hb
      have eb := (byt_at s j p4).trans p5
      have hiff := takeWhile_at (p := isBlank) (i := j) (by rw [← hd]; omega) hb
      rw [← hd] at hiff
      obtain ⟨x, hx⟩ : ∃ x, x = (b.toNat : Int) := ⟨_, rfl⟩
      rw [← hx] at eb
      have CC := lblank_any b x hx
      clear p5 hb
      cases hc : isBlank b with
      | true =>
        rw [hc] at CC
        have hin := hiff.2 hc
        clear hiff hc hx hd hsl
        go_wp2_with (go_at_call 45; refine (CC _).mono ?_; rintro e w2 ⟨rfl, rfl⟩)
        go_roundw
        case rel => exact ⟨j + 1, by go_num, by omega, trivial⟩
        case measure => simp [intOf] <;> omega
      | false =>
        rw [hc] at CC
        have hjd : j = d.length := by
          have h : ¬ j < d.length := fun h => by
            have := hiff.1 h
            rw [hc] at this
            cases this
          omega
        have HJ := Lib.hid hjd
        clear hiff hc hx hd hsl hjd
        go_wp2_with (go_at_call 45; refine (CC _).mono ?_; rintro e w2 ⟨rfl, rfl⟩)
        refine bodyPost_ret (v := .int .i64 (j : Int)) (by simp [results, Tryz.results44, go_sem]) rfl ⟨by rw [HJ.out], rfl⟩
    · have hjd : j = d.length := by omega
      have HJ := Lib.hid hjd
      clear hd hsl hjd
      go_wp2_with fail
      refine bodyPost_ret (v := .int .i64 (j : Int)) (by simp [results, Tryz.results44, go_sem]) rfl ⟨by rw [HJ.out], rfl⟩

set_option maxHeartbeats 1000000 in
theorem span_part (s : ByteArray) (w : World) (hs : s.size ≤ 2000) :
    Calls Tryz.prog 44 #[.string s, .func (.func 70) #[] #[]] w fun e w' => e = .returned (.int .i64 ((s.data.toList.takeWhile isWordB).length : Int)) ∧ w' = w := by
  have hsl : s.data.toList.length = s.size := Array.length_toList
  obtain ⟨d, hd⟩ : ∃ d, d = s.data.toList.takeWhile isWordB := ⟨_, rfl⟩
  rw [← hd]
  have hdl : d.length ≤ s.size := by
    have := takeWhile_le isWordB s.data.toList
    rw [← hd, hsl] at this
    exact this
  go_enter Tryz.func44, Tryz.ntmps44
  go_wp2_with fail
  go_loopw [5] (fun va wr => ∃ j : Nat, va = .int .i64 j ∧ j ≤ d.length ∧ wr = w) (fun va _ => s.size - (intOf va).toNat)
  case atStart => exact ⟨0, rfl, Nat.zero_le _, rfl⟩
  case round =>
    obtain ⟨j, rfl, hj, rfl⟩ := hrel
    by_cases hlt : j < s.size
    · obtain ⟨b, hb⟩ : ∃ b, s.data.toList[j]? = some b := ⟨_, List.getElem?_eq_getElem (by rw [hsl]; exact hlt)⟩
      obtain ⟨p4, p5⟩ := byt_data hb
      have eb := (byt_at s j p4).trans p5
      have hiff := takeWhile_at (p := isWordB) (i := j) (by rw [← hd]; omega) hb
      rw [← hd] at hiff
      obtain ⟨x, hx⟩ : ∃ x, x = (b.toNat : Int) := ⟨_, rfl⟩
      rw [← hx] at eb
      have CC := lpart_any b x hx
      clear p5 hb
      cases hc : isWordB b with
      | true =>
        rw [hc] at CC
        have hin := hiff.2 hc
        clear hiff hc hx hd hsl
        go_wp2_with (go_at_call 70; refine (CC _).mono ?_; rintro e w2 ⟨rfl, rfl⟩)
        go_roundw
        case rel => exact ⟨j + 1, by go_num, by omega, trivial⟩
        case measure => simp [intOf] <;> omega
      | false =>
        rw [hc] at CC
        have hjd : j = d.length := by
          have h : ¬ j < d.length := fun h => by
            have := hiff.1 h
            rw [hc] at this
            cases this
          omega
        have HJ := Lib.hid hjd
        clear hiff hc hx hd hsl hjd
        go_wp2_with (go_at_call 70; refine (CC _).mono ?_; rintro e w2 ⟨rfl, rfl⟩)
        refine bodyPost_ret (v := .int .i64 (j : Int)) (by simp [results, Tryz.results44, go_sem]) rfl ⟨by rw [HJ.out], rfl⟩
    · have hjd : j = d.length := by omega
      have HJ := Lib.hid hjd
      clear hd hsl hjd
      go_wp2_with fail
      refine bodyPost_ret (v := .int .i64 (j : Int)) (by simp [results, Tryz.results44, go_sem]) rfl ⟨by rw [HJ.out], rfl⟩

set_option maxHeartbeats 1000000 in
theorem span_digit (s : ByteArray) (w : World) (hs : s.size ≤ 2000) :
    Calls Tryz.prog 44 #[.string s, .func (.func 48) #[] #[]] w fun e w' => e = .returned (.int .i64 ((s.data.toList.takeWhile isDigit).length : Int)) ∧ w' = w := by
  have hsl : s.data.toList.length = s.size := Array.length_toList
  obtain ⟨d, hd⟩ : ∃ d, d = s.data.toList.takeWhile isDigit := ⟨_, rfl⟩
  rw [← hd]
  have hdl : d.length ≤ s.size := by
    have := takeWhile_le isDigit s.data.toList
    rw [← hd, hsl] at this
    exact this
  go_enter Tryz.func44, Tryz.ntmps44
  go_wp2_with fail
  go_loopw [5] (fun va wr => ∃ j : Nat, va = .int .i64 j ∧ j ≤ d.length ∧ wr = w) (fun va _ => s.size - (intOf va).toNat)
  case atStart => exact ⟨0, rfl, Nat.zero_le _, rfl⟩
  case round =>
    obtain ⟨j, rfl, hj, rfl⟩ := hrel
    by_cases hlt : j < s.size
    · obtain ⟨b, hb⟩ : ∃ b, s.data.toList[j]? = some b := ⟨_, List.getElem?_eq_getElem (by rw [hsl]; exact hlt)⟩
      obtain ⟨p4, p5⟩ := byt_data hb
      have eb := (byt_at s j p4).trans p5
      have hiff := takeWhile_at (p := isDigit) (i := j) (by rw [← hd]; omega) hb
      rw [← hd] at hiff
      obtain ⟨x, hx⟩ : ∃ x, x = (b.toNat : Int) := ⟨_, rfl⟩
      rw [← hx] at eb
      have CC := ldigit_any b x hx
      clear p5 hb
      cases hc : isDigit b with
      | true =>
        rw [hc] at CC
        have hin := hiff.2 hc
        clear hiff hc hx hd hsl
        go_wp2_with (go_at_call 48; refine (CC _).mono ?_; rintro e w2 ⟨rfl, rfl⟩)
        go_roundw
        case rel => exact ⟨j + 1, by go_num, by omega, trivial⟩
        case measure => simp [intOf] <;> omega
      | false =>
        rw [hc] at CC
        have hjd : j = d.length := by
          have h : ¬ j < d.length := fun h => by
            have := hiff.1 h
            rw [hc] at this
            cases this
          omega
        have HJ := Lib.hid hjd
        clear hiff hc hx hd hsl hjd
        go_wp2_with (go_at_call 48; refine (CC _).mono ?_; rintro e w2 ⟨rfl, rfl⟩)
        refine bodyPost_ret (v := .int .i64 (j : Int)) (by simp [results, Tryz.results44, go_sem]) rfl ⟨by rw [HJ.out], rfl⟩
    · have hjd : j = d.length := by omega
      have HJ := Lib.hid hjd
      clear hd hsl hjd
      go_wp2_with fail
      refine bodyPost_ret (v := .int .i64 (j : Int)) (by simp [results, Tryz.results44, go_sem]) rfl ⟨by rw [HJ.out], rfl⟩

end Go.Proofs.YtgmmbfcjjgehoaaGreatDoor
