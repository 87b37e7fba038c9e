/- One value read out of bytes. -/
import Derived.Test.YtmhcdmebienlpaaValA
import Derived.Test.YtmhcdmebienlpaaBox
import Derived.Test.YtmhcdmebienlpaaClone
import Derived.Test.YtmhcdmebienlpaaRowHash
namespace Go.Proofs.Ytmhcdmebienlpaa
open Go.RowKit

/-- The byte at place i of a text, as a number. -/
def at_ (s : ByteArray) (i : Nat) : Int := ((s.data[i]?.getD 0).toNat : Int)

theorem at_lt (s : ByteArray) (i : Nat) : 0 ≤ at_ s i ∧ at_ s i < 256 := by
  unfold at_
  have := (s.data[i]?.getD 0).toNat_lt
  omega

/-- How many bytes the first value takes, by its first bytes. -/
def firstN (s : ByteArray) : Int := if at_ s 0 = 0 then 1 else if at_ s 0 = 1 then 9 else if at_ s 0 = 2 then 2 else if at_ s 0 = 3 then (if 1 < s.size then 2 + at_ s 1 else 0) else 0

set_option maxHeartbeats 1000000 in
theorem firstSize_any (s : ByteArray) (w : World) (h0 : 0 < s.size) (hs : s.size ≤ 9223372036854775807) :
    Calls Try.prog 28 #[.string s] w fun e w' => e = .returned (.int .i64 (firstN s)) ∧ w' = w := by
  go_enter Try.func28, Try.ntmps28
  go_wp2
  all_goals have e0 : wrap64 (s[0].toNat : Int) = at_ s 0 := byte_at s 0 h0
  all_goals simp only [e0, beq_iff_eq, beq_eq_false_iff_ne] at *
  all_goals go_ret
  all_goals refine ⟨?_, rfl⟩
  all_goals unfold firstN
  · simp [*]
  · simp [*]
  · simp [*]
  · rename_i h
    have h1 : 1 < s.size := by omega
    have e1 : wrap64 (s[1].toNat : Int) = at_ s 1 := byte_at s 1 h1
    have l1 := at_lt s 1
    have e2 : wrap64 (2 + at_ s 1) = 2 + at_ s 1 := by unfold wrap64; omega
    simp [*]
  · rename_i h
    have h1 : ¬ 1 < s.size := by omega
    simp [*]
  · simp [*]

/-- A number out of eight bytes. -/
def dec8 (s : ByteArray) : Nat → Int
  | 0 => 0
  | k + 1 => bits BinOp.or IntKind.u64 (IntKind.u64.wrap (dec8 s k * 256)) (at_ s (1 + k))

theorem u64_at (s : ByteArray) (i : Nat) (h : i < s.size) : IntKind.u64.wrap (s[i].toNat : Int) = at_ s i := by
  have h' : i < s.data.size := h
  have e : s.data[i]?.getD 0 = s[i] := by rw [Array.getElem?_eq_getElem h']; rfl
  have l := s[i].toNat_lt
  unfold at_
  rw [e, IntKind.wrap_u64]
  omega

set_option maxHeartbeats 1000000 in
theorem decodeValue_int (s : ByteArray) (w : World) (h0 : 9 ≤ s.size) (hs : s.size ≤ 9223372036854775807) (hk : at_ s 0 = 1) :
    Calls Try.prog 29 #[.string s] w fun e w' => e = .returned (.agg #[.int .i64 1, .int .i64 (wrap64 (dec8 s 8)), .string ⟨#[]⟩]) ∧ Below w.heap.size w w' := by
  have e0 : wrap64 (s[0].toNat : Int) = 1 := by rw [byte_at s 0 (by omega)]; exact hk
  go_enter Try.func29, Try.ntmps29
  go_wp2
  go_loopw [4, 14] (fun d i wr => ∃ k : Nat, k ≤ 8 ∧ i = .int .i64 k ∧ d = .int .u64 (dec8 s k) ∧ wr = (w.alloc (.cells #[.int .i64 0, .int .i64 0, .string ⟨#[]⟩] 36)).alloc (.cells #[.int .i64 1, .int .i64 0, .string ⟨#[]⟩] 36)) (fun _ i _ => 8 - (intOf i).toNat)
  case atStart => exact ⟨0, by omega, rfl, rfl, rfl⟩
  case round =>
    obtain ⟨k, hk, rfl, rfl, rfl⟩ := hrel
    clear e0
    by_cases hlt : k < 8
    · go_wp2
      go_roundw
      case rel =>
        refine ⟨k + 1, by omega, by go_num, ?_, by trivial⟩
        rw [dec8, ← u64_at s (1 + k) (by omega)]
      case measure => simp [intOf]; omega
    · have hk8 : k = 8 := by omega
      subst hk8
      go_wp2
      (refine bodyPost_ret (v := .agg #[.int .i64 1, .int .i64 (wrap64 (dec8 s 8)), .string ⟨#[]⟩]) (by simp [results, Try.results29, go_sem]) rfl ⟨rfl, ?_⟩)
      (repeat (first | exact ext_refl _ | assumption | (refine ext_alloc ?_ _) | (refine ext_drewN ?_ _) | refine ext_drew ?_ | (refine ext_set (by first | (simp; done) | (simp; omega)) _ ?_) | (refine ext_trans ?_ (by assumption))))

set_option maxHeartbeats 1000000 in
theorem decodeValue_text (s : ByteArray) (w : World) (h0 : 2 ≤ s.size) (hs : s.size ≤ 281474976710656) (hk : at_ s 0 = 3) :
    Calls Try.prog 29 #[.string s] w fun e w' => e = .returned (.agg #[.int .i64 3, .int .i64 0, .string (s.extract 2 s.size)]) ∧ Below w.heap.size w w' := by
  have e0 : wrap64 (s[0].toNat : Int) = 3 := by rw [byte_at s 0 (by omega)]; exact hk
  go_enter Try.func29, Try.ntmps29
  have hx : (s.extract 2 s.size).size ≤ 281474976710656 := by rw [ByteArray.size_extract]; omega
  go_wp2_with (first | (go_at_call 38; go_must (refine (clone_any _ _ hx).mono ?_; rintro e w1 ⟨rfl, hb⟩; have B0 := ((Box.new w 0 0 ⟨#[]⟩ 36).alloc _).ext hb; have b0 := B0.c0; have b1 := B0.c1; have b2 := B0.c2; obtain ⟨hc, hz, hf⟩ := kept hb)))
  refine bodyPost_ret (v := .agg #[.int .i64 3, .int .i64 0, .string (s.extract 2 s.size)]) (by simp [results, Try.results29, go_sem, b0, b1, b2]) rfl ⟨rfl, ?_⟩
  (repeat (first | exact ext_refl _ | assumption | (refine ext_alloc ?_ _) | (refine ext_drewN ?_ _) | refine ext_drew ?_ | (refine ext_set (by first | (simp; done) | (simp; omega)) _ ?_) | (refine ext_trans ?_ (by assumption))))

set_option maxHeartbeats 1000000 in
theorem decodeValue_bool (s : ByteArray) (w : World) (h0 : 2 ≤ s.size) (hs : s.size ≤ 9223372036854775807) (hk : at_ s 0 = 2) :
    Calls Try.prog 29 #[.string s] w fun e w' => e = .returned (.agg #[.int .i64 2, .int .i64 (at_ s 1), .string ⟨#[]⟩]) ∧ Below w.heap.size w w' := by
  have e0 : wrap64 (s[0].toNat : Int) = 2 := by rw [byte_at s 0 (by omega)]; exact hk
  have e1 : wrap64 (s[1].toNat : Int) = at_ s 1 := byte_at s 1 (by omega)
  go_enter Try.func29, Try.ntmps29
  go_wp2
  (refine bodyPost_ret (v := .agg #[.int .i64 2, .int .i64 (at_ s 1), .string ⟨#[]⟩]) (by simp [results, Try.results29, go_sem]) rfl ⟨rfl, ?_⟩)
  (repeat (first | exact ext_refl _ | assumption | (refine ext_alloc ?_ _) | (refine ext_drewN ?_ _) | refine ext_drew ?_ | (refine ext_set (by first | (simp; done) | (simp; omega)) _ ?_) | (refine ext_trans ?_ (by assumption))))

set_option maxHeartbeats 1000000 in
theorem decodeValue_other (s : ByteArray) (w : World) (h0 : 1 ≤ s.size) (hs : s.size ≤ 9223372036854775807) (h1 : at_ s 0 ≠ 1) (h2 : at_ s 0 ≠ 2) (h3 : at_ s 0 ≠ 3) :
    Calls Try.prog 29 #[.string s] w fun e w' => e = .returned (.agg #[.int .i64 (at_ s 0), .int .i64 0, .string ⟨#[]⟩]) ∧ Below w.heap.size w w' := by
  have e0 : wrap64 (s[0].toNat : Int) = at_ s 0 := byte_at s 0 (by omega)
  go_enter Try.func29, Try.ntmps29
  go_wp2
  (refine bodyPost_ret (v := .agg #[.int .i64 (at_ s 0), .int .i64 0, .string ⟨#[]⟩]) (by simp [results, Try.results29, go_sem]) rfl ⟨rfl, ?_⟩)
  (repeat (first | exact ext_refl _ | assumption | (refine ext_alloc ?_ _) | (refine ext_drewN ?_ _) | refine ext_drew ?_ | (refine ext_set (by first | (simp; done) | (simp; omega)) _ ?_) | (refine ext_trans ?_ (by assumption))))

/-- The value that bytes tell. -/
def decVal (s : ByteArray) : Val := if at_ s 0 = 1 then ⟨1, wrap64 (dec8 s 8), ⟨#[]⟩⟩ else if at_ s 0 = 2 then ⟨2, at_ s 1, ⟨#[]⟩⟩ else if at_ s 0 = 3 then ⟨3, 0, s.extract 2 s.size⟩ else ⟨at_ s 0, 0, ⟨#[]⟩⟩

theorem decodeValue_any (s : ByteArray) (w : World) (hs : s.size ≤ 281474976710656) (hn : firstN s = s.size) (h0 : 0 < s.size) : Calls Try.prog 29 #[.string s] w fun e w' => e = .returned (decVal s).v ∧ Below w.heap.size w w' := by
  unfold firstN at hn
  unfold decVal
  by_cases h1 : at_ s 0 = 1
  · simp [h1] at hn
    rw [if_pos h1]
    exact decodeValue_int s w (by omega) (by omega) h1
  rw [if_neg h1]
  by_cases h2 : at_ s 0 = 2
  · simp [h2] at hn
    rw [if_pos h2]
    exact decodeValue_bool s w (by omega) (by omega) h2
  rw [if_neg h2]
  by_cases h3 : at_ s 0 = 3
  · simp [h3] at hn
    rw [if_pos h3]
    refine decodeValue_text s w ?_ hs h3
    split at hn
    · omega
    · omega
  rw [if_neg h3]
  exact decodeValue_other s w h0 (by omega) h1 h2 h3

end Go.Proofs.Ytmhcdmebienlpaa
