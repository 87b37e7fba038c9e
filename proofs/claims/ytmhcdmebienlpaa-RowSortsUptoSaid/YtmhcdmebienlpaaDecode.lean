/- A row read out of bytes. -/
import Derived.Test.YtmhcdmebienlpaaDec
import Derived.Test.YtmhcdmebienlpaaVals
namespace Go.Proofs.Ytmhcdmebienlpaa
open Go.RowKit

/-- What Decode makes of the bytes s, with the values acc behind it. -/
def decRun : Nat → ByteArray → List Val → Option (List Val)
  | 0, _, acc => some acc
  | f + 1, s, acc =>
    if s.size = 0 then some acc
    else if firstN s = 0 ∨ (s.size : Int) < firstN s ∨ acc.length = 100 then none
    else if (decVal (s.extract 0 (firstN s).toNat)).right then decRun f (s.extract (firstN s).toNat s.size) (acc ++ [decVal (s.extract 0 (firstN s).toNat)])
    else none

/-- What Decode answers. -/
def IsDec (B : Nat) (o : Option (List Val)) (e : Ending) (w : World) : Prop :=
  match o with
  | none => e = .returned (.tuple #[.slice none 0 0, .int .i64 2])
  | some l => ∃ v, e = .returned (.tuple #[v, .int .i64 0]) ∧ OwnV w B v l

theorem at_extract (s : ByteArray) (n i : Nat) (h : i < n) (hn : n ≤ s.size) : at_ (s.extract 0 n) i = at_ s i := by
  unfold at_
  have : (s.extract 0 n).data = s.data.extract 0 n := by simp [ByteArray.data_extract]
  rw [this, Array.getElem?_extract]
  have hn' : n ≤ s.data.size := hn
  have hm : min n s.data.size = n := Nat.min_eq_left hn'
  rw [hm, if_pos (by omega), Nat.zero_add]

theorem size_extract0 (s : ByteArray) (n : Nat) (hn : n ≤ s.size) : (s.extract 0 n).size = n := by
  rw [ByteArray.size_extract]; omega

theorem firstN_extract (s : ByteArray) (h0 : firstN s ≠ 0) (hl : firstN s ≤ s.size) : 1 ≤ firstN s ∧ firstN (s.extract 0 (firstN s).toNat) = firstN s ∧ (s.extract 0 (firstN s).toNat).size = (firstN s).toNat := by
  by_cases a0 : at_ s 0 = 0
  · have hf : firstN s = 1 := by simp [firstN, a0]
    rw [hf] at hl ⊢
    refine ⟨by omega, ?_, size_extract0 _ _ (by omega)⟩
    have e0 := at_extract s 1 0 (by omega) (by omega)
    unfold firstN
    simp [e0, a0]
  by_cases a1 : at_ s 0 = 1
  · have hf : firstN s = 9 := by simp [firstN, a1]
    rw [hf] at hl ⊢
    refine ⟨by omega, ?_, size_extract0 _ _ (by omega)⟩
    have e0 := at_extract s 9 0 (by omega) (by omega)
    unfold firstN
    simp [e0, a1]
  by_cases a2 : at_ s 0 = 2
  · have hf : firstN s = 2 := by simp [firstN, a2]
    rw [hf] at hl ⊢
    refine ⟨by omega, ?_, size_extract0 _ _ (by omega)⟩
    have e0 := at_extract s 2 0 (by omega) (by omega)
    unfold firstN
    simp [e0, a2]
  by_cases a3 : at_ s 0 = 3
  · have hs1 : 1 < s.size := by
      rcases Nat.lt_or_ge 1 s.size with h | h
      · exact h
      · exact absurd (by simp [firstN, a3]; omega) h0
    have hf : firstN s = 2 + at_ s 1 := by simp [firstN, a3, hs1]
    have l1 := at_lt s 1
    obtain ⟨m, hm⟩ : ∃ m : Nat, firstN s = ((2 + m : Nat) : Int) := ⟨(at_ s 1).toNat, by rw [hf]; omega⟩
    have hm1 : at_ s 1 = m := by omega
    rw [hm] at hl ⊢
    rw [Int.toNat_natCast]
    refine ⟨by omega, ?_, size_extract0 _ _ (by omega)⟩
    have e0 := at_extract s (2 + m) 0 (by omega) (by omega)
    have e1 := at_extract s (2 + m) 1 (by omega) (by omega)
    have es := size_extract0 s (2 + m) (by omega)
    unfold firstN
    rw [e0, e1, es, a3, hm1]
    simp
    omega
  · exact absurd (by simp [firstN, a0, a1, a2, a3]) h0

theorem size_rest (s : ByteArray) (n : Nat) : (s.extract n s.size).size = s.size - n := by
  rw [ByteArray.size_extract]; omega

theorem decRun_fuel : ∀ (f g : Nat) (u : ByteArray) (acc : List Val), u.size ≤ f → u.size ≤ g → decRun f u acc = decRun g u acc := by
  intro f
  induction f with
  | zero =>
    intro g u acc hf hg
    cases g with
    | zero => rfl
    | succ g => rw [decRun, decRun, if_pos (by omega)]
  | succ f ih =>
    intro g u acc hf hg
    cases g with
    | zero => rw [decRun, decRun, if_pos (by omega)]
    | succ g =>
      rw [decRun, decRun]
      by_cases h0 : u.size = 0
      · rw [if_pos h0, if_pos h0]
      rw [if_neg h0, if_neg h0]
      by_cases hb : firstN u = 0 ∨ (u.size : Int) < firstN u ∨ acc.length = 100
      · rw [if_pos hb, if_pos hb]
      rw [if_neg hb, if_neg hb]
      have x := (firstN_extract u (fun h => hb (.inl h)) (Int.not_lt.1 fun h => hb (.inr (.inl h)))).1
      have hs := size_rest u (firstN u).toNat
      rw [ih g _ _ (by omega) (by omega)]

theorem firstN_le (s : ByteArray) : firstN s ≤ 257 := by
  have := at_lt s 1
  unfold firstN
  repeat (split <;> try omega)

/-- How long a text is. -/
def szOf : Value → Nat
  | .string s => s.size
  | _ => 0

set_option maxHeartbeats 2000000 in
theorem decode_any (s : ByteArray) (w : World) (hs : s.size ≤ 9223372036854775807) :
    Calls Try.prog 14 #[.string s] w fun e w' => IsDec w.heap.size (decRun s.size s []) e w' ∧ Below w.heap.size w w' := by
  go_enter Try.func14, Try.ntmps14
  go_wp2
  go_loopw [0, 4] (fun t v wr => ∃ (u : ByteArray) (acc : List Val), t = .string u ∧ u.size ≤ s.size ∧ acc.length ≤ 100 ∧ OwnV wr w.heap.size v acc ∧ Below w.heap.size w wr ∧ Hid (decRun u.size u acc = decRun s.size s [])) (fun t _ _ => szOf t)
  case atStart => exact ⟨s, [], rfl, Nat.le_refl _, by simp, OwnV.nil _ _, ext_refl _, rfl⟩
  case round =>
    obtain ⟨u, acc, rfl, hus, hal, HO, hE, HD⟩ := hrel
    obtain ⟨p, cap, rfl, _, _, hcm⟩ := HO.row
    by_cases hz : u.size = 0
    · have hu : u = ⟨#[]⟩ := by
        apply ByteArray.ext
        exact Array.eq_empty_of_size_eq_zero hz
      subst hu
      go_wp2
      go_ret2
      refine ⟨?_, hE⟩
      rw [← HD.out]
      exact ⟨_, rfl, HO⟩
    · have hne : u.toList.isEmpty = false := by
        rw [List.isEmpty_eq_false_iff]
        intro e
        rw [ByteArray.toList_eq] at e
        apply hz
        have : u.data.size = 0 := by rw [← Array.length_toList, e]; rfl
        exact this
      have hu0 : 0 < u.size := by omega
      have hu63 : u.size ≤ 9223372036854775807 := by omega
      obtain ⟨f, hf⟩ : ∃ f, u.size = f + 1 := ⟨u.size - 1, by omega⟩
      have HD' := HD.out
      rw [hf, decRun, if_neg hz] at HD'
      obtain ⟨N, hN⟩ : ∃ N, N = firstN u := ⟨_, rfl⟩
      by_cases g0 : N = 0
      · rw [if_pos (.inl (by rw [← hN]; exact g0))] at HD'
        have HF := Lib.hid HD'
        clear HD'
        subst g0
        go_wp2_with (first | (go_at_call 28; go_must (refine (firstSize_any u _ hu0 hu63).mono ?_; rintro e w1 ⟨rfl, rfl⟩; rw [← hN])))
        go_ret2
        refine ⟨?_, hE⟩
        rw [← HF.out]
        rfl
      by_cases g1 : (u.size : Int) < N
      · rw [if_pos (.inr (.inl (by rw [← hN]; exact g1)))] at HD'
        have HF := Lib.hid HD'
        clear HD'
        have b0 : (N == 0) = false := by simp; exact g0
        go_wp2_with (first | (go_at_call 28; go_must (refine (firstSize_any u _ hu0 hu63).mono ?_; rintro e w1 ⟨rfl, rfl⟩; rw [← hN])))
        go_ret2
        refine ⟨?_, hE⟩
        rw [← HF.out]
        rfl
      by_cases g2 : acc.length = 100
      · rw [if_pos (.inr (.inr g2))] at HD'
        have HF := Lib.hid HD'
        clear HD'
        have b0 : (N == 0) = false := by simp; exact g0
        have b1 : decide (N > (u.size : Int)) = false := by simp; omega
        go_wp2_with (first | (go_at_call 28; go_must (refine (firstSize_any u _ hu0 hu63).mono ?_; rintro e w1 ⟨rfl, rfl⟩; rw [← hN])))
        go_ret2
        refine ⟨?_, hE⟩
        rw [← HF.out]
        rfl
      · rw [← hN] at HD'
        rw [if_neg (by omega)] at HD'
        obtain ⟨x1, x2, x3⟩ := firstN_extract u (by rw [← hN]; exact g0) (by rw [← hN]; omega)
        rw [← hN] at x1 x2 x3
        obtain ⟨n, rfl⟩ : ∃ n : Nat, N = n := ⟨N.toNat, by omega⟩
        rw [Int.toNat_natCast] at HD' x2 x3
        have hn1 : 1 ≤ n := by omega
        have hn2 : n ≤ u.size := by omega
        have b0 : ((n : Int) == 0) = false := by simp; omega
        have b2 : (((acc.length : Nat) : Int) == 100) = false := by simp; omega
        have hrest := size_rest u n
        have hle := firstN_le u
        rw [← hN] at hle
        have D := Lib.hid (fun W => decodeValue_any (u.extract 0 n) W (by omega) (by rw [x2, x3]) (by omega))
        have HN := Lib.hid hN
        have HX := Lib.hid hrest
        have HFS := Lib.hid hf
        clear hN hrest x1 x2 x3 g0 g1 g2 HD hf hle
        cases hr : (decVal (u.extract 0 n)).right
        · rw [hr] at HD'
          have HF := Lib.hid HD'
          have HR := Lib.hid hr
          clear HD' hr
          go_wp2_with (first | (go_at_call 28; go_must (refine (firstSize_any u _ hu0 hu63).mono ?_; rintro e w1 ⟨rfl, rfl⟩; rw [← HN.out])) | (go_at_call 29; go_must (refine (D.out _).mono ?_; rintro e w2 ⟨rfl, hb2⟩)) | (go_at_call 30; go_must (refine (right_any (decVal (u.extract 0 n)) _).mono ?_; rintro e w3 ⟨rfl, hb3⟩; rw [HR.out])))
          go_ret2
          refine ⟨?_, ext_trans (ext_trans hE hb2) (by (repeat (first | exact ext_refl _ | assumption | (refine ext_alloc ?_ _) | (refine ext_drewN ?_ _) | refine ext_drew ?_ | (refine ext_set (by first | (simp; done) | (simp; omega)) _ ?_) | (refine ext_trans ?_ (by assumption)))))⟩
          rw [← HF.out]
          rfl
        · rw [hr] at HD'
          have HF := Lib.hid HD'
          have HR := Lib.hid hr
          clear HD' hr
          generalize decVal (u.extract 0 n) = y at D HF HR ⊢
          go_wp2_with (first | (go_at_call 28; go_must (refine (firstSize_any u _ hu0 hu63).mono ?_; rintro e w1 ⟨rfl, rfl⟩; rw [← HN.out])) | (go_at_call 29; go_must (refine (D.out _).mono ?_; rintro e w2 ⟨rfl, hb2⟩)) | (go_at_call 30; go_must (refine (right_any y _).mono ?_; rintro e w3 ⟨rfl, hb3⟩; rw [HR.out]; have B3 := (Box.new w2 y.k y.n y.s 36).ext hb3; have v0 := B3.c0; have v1 := B3.c1; have v2 := B3.c2)) | (at_builtin; refine wp_append_val rfl _ _ rfl w.heap.size _ acc rfl (HO.later ?k1) y _ _ rfl ?k2 ?k3 ?k4 ?k5 ?k6 ?_))
          case k1 => (repeat (first | exact ext_refl _ | assumption | (refine ext_alloc ?_ _) | (refine ext_drewN ?_ _) | refine ext_drew ?_ | (refine ext_set (by first | (simp; done) | (simp; omega)) _ ?_) | (refine ext_trans ?_ (by assumption))))
          case k2 => simp [go_sem]
          case k3 => simp [go_sem]
          case k4 => simp [go_sem]
          case k5 => omega
          case k6 =>
            have s1 := hE.size
            have s2 := hb2.size
            have s3 := hb3.size
            rw [World.size_alloc] at s3 ⊢
            omega
          intro v' w4 hown hbel
          go_wp2
          go_roundw
          case rel =>
            have hal' : acc.length ≠ 100 := by
              intro e
              rw [e] at b2
              simp at b2
            refine ⟨u.extract n u.size, acc ++ [y], rfl, by rw [HX.out]; omega, by simp; omega, hown, (ext_trans (ext_trans (ext_alloc (ext_trans hE hb2) _) hb3 |>.alloc (by have := hE.size; have := hb2.size; have s3 := hb3.size; rw [World.size_alloc] at s3; omega) _) (ext_refl _)).trans hbel, ?_⟩
            have h := HF.out
            rw [if_pos trivial] at h
            show _ = _
            rw [← h]
            exact decRun_fuel _ _ _ _ (Nat.le_refl _) (by have := HFS.out; rw [HX.out]; omega)
          case measure =>
            have := HX.out
            simp [szOf]
            omega

end Go.Proofs.Ytmhcdmebienlpaa
