/- The reference's token at a place: a number, a place for an argument. -/
import Derived.Test.YtejfjlbnehdgnaaDoorLxR
namespace Go.Proofs.YtejfjlbnehdgnaaDoor
open Go.RowKit
set_option maxRecDepth 100000

/-- What the reference answers at place k. -/
def OneOut : One → Nat → Ending → Prop
  | .tok kd n st used, k, e => e = .returned (.tuple #[.agg #[.int .i64 (kd : Int), .int .i64 (n : Int), .int .i64 (k : Int), .string (bsB st)], .int .i64 ((k + used : Nat) : Int), .int .i64 0, .int .i64 0])
  | .err er rel, k, e => ∃ (a b c : Int) (d : ByteArray), e = .returned (.tuple #[.agg #[.int .i64 a, .int .i64 b, .int .i64 c, .string d], .int .i64 0, .int .i64 (er : Int), .int .i64 ((k + rel : Nat) : Int)])

set_option maxHeartbeats 4000000 in
theorem rone_num (s : ByteArray) (k : Nat) (w : World) (hk : k < s.size) (hs : s.size ≤ 2000) (b : UInt8) (hb : s.data.toList[k]? = some b) (hl : isLetter b = false) (hd : isDigit b = true) :
    Calls Tryd.prog 12 #[.string s, .int .i64 (k : Int)] w fun e w' => OneOut (oneNum (s.data.toList.drop k)) k e ∧ Below w.heap.size w w' := by
  obtain ⟨p4, p5⟩ := byt_data hb
  have eb := (byt_at s k p4).trans p5
  clear p5 hb
  go_enter Tryd.func12, Tryd.ntmps12
  go_wp2_with fail
  refine (rletter_any b _ rfl _).mono ?_
  rintro e w1 ⟨rfl, rfl⟩
  rw [hl]
  go_wp2_with fail
  refine (rdigit_any b _ rfl _).mono ?_
  rintro e w1 ⟨rfl, rfl⟩
  rw [hd]
  go_wp2_with fail
  refine (rdigits_any s k _ (by omega) hs _ rfl).mono ?_
  rintro e w2 ⟨⟨n, hn0, hn1, hn2, rfl⟩, rfl⟩
  obtain ⟨D, hD⟩ : ∃ D, D = (s.data.toList.drop k).takeWhile isDigit := ⟨_, rfl⟩
  rw [← hD] at hn2 ⊢
  have HD := Lib.hid hD
  clear hD
  by_cases hover : 9223372036854775807 < numOf D
  · have HV := Lib.hid hover
    rw [decide_eq_true hover]
    clear hover hn2
    go_wp2_with fail
    refine bodyPost_ret (v := .tuple #[.agg #[.int .i64 0, .int .i64 0, .int .i64 (k : Int), .string ⟨#[]⟩], .int .i64 0, .int .i64 5, .int .i64 (k : Int)]) (by simp [results, Tryd.results12, go_sem]) rfl ⟨?_, ext_alloc (ext_alloc (ext_refl _) _) _⟩
    have e : oneNum (s.data.toList.drop k) = .err 5 0 := by unfold oneNum; rw [← HD.out, if_pos HV.out]
    rw [e]
    exact ⟨_, _, _, _, rfl⟩
  · have HV := Lib.hid hover
    have hn := Lib.hid (hn2 (by omega))
    rw [decide_eq_false hover]
    clear hover hn2
    go_wp2_with fail
    refine bodyPost_ret (v := .tuple #[.agg #[.int .i64 3, .int .i64 n, .int .i64 (k : Int), .string ⟨#[]⟩], .int .i64 ((k : Int) + (D.length : Int)), .int .i64 0, .int .i64 0]) (by simp [results, Tryd.results12, go_sem]) rfl ⟨?_, ext_alloc (ext_alloc (ext_refl _) _) _⟩
    have e : oneNum (s.data.toList.drop k) = .tok 3 (numOf D) [] D.length := by unfold oneNum; rw [← HD.out, if_neg HV.out]
    rw [e, hn.out]
    rfl

set_option maxHeartbeats 4000000 in
theorem rone_par (s : ByteArray) (k : Nat) (w : World) (hk : k < s.size) (hs : s.size ≤ 2000) (hb : s.data.toList[k]? = some 36) :
    Calls Tryd.prog 12 #[.string s, .int .i64 (k : Int)] w fun e w' => OneOut (onePar (s.data.toList.drop (k + 1))) k e ∧ Below w.heap.size w w' := by
  obtain ⟨p4, p5⟩ := byt_data hb
  have eb : ((s[k]'p4).toNat : Int) = 36 := (byt_at s k p4).trans p5
  clear p5 hb
  go_enter Tryd.func12, Tryd.ntmps12
  go_wp2_with fail
  refine (rletter_any 36 _ rfl _).mono ?_
  rintro e w1 ⟨rfl, rfl⟩
  rw [show isLetter 36 = false from rfl]
  go_wp2_with fail
  refine (rdigit_any 36 _ rfl _).mono ?_
  rintro e w1 ⟨rfl, rfl⟩
  rw [show isDigit 36 = false from rfl]
  go_wp2_with fail
  refine (rdigits_any s (k + 1) _ (by omega) hs _ rfl).mono ?_
  rintro e w2 ⟨⟨n, hn0, hn1, hn2, rfl⟩, rfl⟩
  obtain ⟨D, hD⟩ : ∃ D, D = (s.data.toList.drop (k + 1)).takeWhile isDigit := ⟨_, rfl⟩
  rw [← hD] at hn2 ⊢
  have HD := Lib.hid hD
  clear hD
  have hdl : D.length ≤ 2000 := by
    have := takeWhile_le isDigit (s.data.toList.drop (k + 1))
    rw [← HD.out, List.length_drop, show s.data.toList.length = s.size from Array.length_toList] at this
    omega
  by_cases hemp : D = []
  · subst hemp
    go_wp2_with fail
    refine bodyPost_ret (v := .tuple #[.agg #[.int .i64 0, .int .i64 0, .int .i64 (k : Int), .string ⟨#[]⟩], .int .i64 0, .int .i64 6, .int .i64 (k : Int)]) (by simp [results, Tryd.results12, go_sem]) rfl ⟨?_, ext_alloc (ext_alloc (ext_refl _) _) _⟩
    have e : onePar (s.data.toList.drop (k + 1)) = .err 6 0 := by unfold onePar; rw [← HD.out, if_pos rfl]
    rw [e]
    exact ⟨_, _, _, _, rfl⟩
  · have hpos : 0 < D.length := List.length_pos_iff.2 hemp
    have HE := Lib.hid hemp
    have hne : ((k : Int) + 1 + (D.length : Int) == (k : Int) + 1) = false := by rw [beq_eq_false_iff_ne]; omega
    by_cases hin : 1 ≤ numOf D ∧ numOf D ≤ 4
    · have hn := hn2 (by omega)
      rw [decide_eq_false (show ¬ 9223372036854775807 < numOf D by omega)]
      have z1 : ¬ n < 1 := by omega
      have z2 : ¬ n > 4 := by omega
      have HN := Lib.hid (And.intro hin hn)
      clear hn2 hin hn hemp
      go_wp2_with fail
      refine bodyPost_ret (v := .tuple #[.agg #[.int .i64 5, .int .i64 n, .int .i64 (k : Int), .string ⟨#[]⟩], .int .i64 ((k : Int) + 1 + (D.length : Int)), .int .i64 0, .int .i64 0]) (by simp [results, Tryd.results12, go_sem]) rfl ⟨?_, ext_alloc (ext_alloc (ext_refl _) _) _⟩
      obtain ⟨⟨i1, i2⟩, i3⟩ := HN.out
      have e : onePar (s.data.toList.drop (k + 1)) = .tok 5 (numOf D) [] (D.length + 1) := by unfold onePar; rw [← HD.out, if_neg HE.out, if_neg (by omega)]
      rw [e, i3, show (k : Int) + 1 + (D.length : Int) = ((k + (D.length + 1) : Nat) : Int) by omega]
      rfl
    · have ER := Lib.hid (show onePar (s.data.toList.drop (k + 1)) = .err 5 0 by unfold onePar; rw [← HD.out, if_neg HE.out, if_pos (by omega)])
      by_cases hover : 9223372036854775807 < numOf D
      · rw [decide_eq_true hover]
        clear hn2 hin hover hemp
        go_wp2_with fail
        refine bodyPost_ret (v := .tuple #[.agg #[.int .i64 0, .int .i64 0, .int .i64 (k : Int), .string ⟨#[]⟩], .int .i64 0, .int .i64 5, .int .i64 (k : Int)]) (by simp [results, Tryd.results12, go_sem]) rfl ⟨?_, ext_alloc (ext_alloc (ext_refl _) _) _⟩
        rw [ER.out]
        exact ⟨_, _, _, _, rfl⟩
      · have hn := hn2 (by omega)
        rw [decide_eq_false hover]
        by_cases hlow : n < 1
        · clear hn2 hin hover hemp hn
          go_wp2_with fail
          refine bodyPost_ret (v := .tuple #[.agg #[.int .i64 0, .int .i64 0, .int .i64 (k : Int), .string ⟨#[]⟩], .int .i64 0, .int .i64 5, .int .i64 (k : Int)]) (by simp [results, Tryd.results12, go_sem]) rfl ⟨?_, ext_alloc (ext_alloc (ext_refl _) _) _⟩
          rw [ER.out]
          exact ⟨_, _, _, _, rfl⟩
        · have z2 : n > 4 := by omega
          clear hn2 hin hover hemp hn
          go_wp2_with fail
          refine bodyPost_ret (v := .tuple #[.agg #[.int .i64 0, .int .i64 0, .int .i64 (k : Int), .string ⟨#[]⟩], .int .i64 0, .int .i64 5, .int .i64 (k : Int)]) (by simp [results, Tryd.results12, go_sem]) rfl ⟨?_, ext_alloc (ext_alloc (ext_refl _) _) _⟩
          rw [ER.out]
          exact ⟨_, _, _, _, rfl⟩

end Go.Proofs.YtejfjlbnehdgnaaDoor
